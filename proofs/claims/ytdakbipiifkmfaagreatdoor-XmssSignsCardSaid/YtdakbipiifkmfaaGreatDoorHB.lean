import Derived.Deep.RegionHeld3
import Derived.Deep.MidRow
import Derived.Deep.WholeRow
import Derived.BigRegion
import Derived.BigQuiet
import Derived.Deep.QuietTactic
import Derived.WalkKit
import Derived.Test.YtdakbipiifkmfaaGreatDoorProg
import Derived.WalkSpells
import Derived.WalkLawsBesides
import Derived.Lib.UnsafeStr
import Derived.Lib.Hide
import Derived.Laws.BytesArg
import Derived.Deep.Draws
import Derived.RegionTactic
import Derived.ChangeAlike
import Derived.Laws.AppendOwnNone
import Derived.Laws.CopyOwn
import Derived.Deep.RegionLaw
import Derived.DeepKeys
import Derived.Lib.SmallJoins
import Derived.StillTailTactics
import Derived.Lib.ConvBytes
import Derived.Lib.AtoiErrMem
import Derived.Laws.AppendOwn
import Derived.Test.YtdakbipiifkmfaaGreatDoorHA
namespace Go.Proofs.YtdakbipiifkmfaaGreatDoor
open Go.RowKit
set_option maxRecDepth 100000
section
variable {P : Program} {md : Region.Mode} {ops : Array Oper} {Q : Exit -> Act -> World -> Prop} {S : World -> Prop} {fuel : Nat} {listed : Array Bool} {a : Act} {w : World}
theorem step_storeRow (i : Nat) (ty : TypeId) (x y : Operand) (hop : (ops[i]?).map (fun o => (o.op, o.dst)) = some (.store ty x y, none)) (hw : (ops[i]?).map (fun o => Region.wanted o (yielded ops a.tmps)) = some true)
  (g : Nat) (hx : a.eval x = .pointer (some ⟨g, 0, none⟩)) (ds : List Value) (hy : a.eval y = .agg ds.toArray) (t : TypeId) (cs : List Value) (hr : Row w g t cs) (hi : (P.info? ty).map (·.size) = some ds.length)
  (hold : cs.length = ds.length) (h1 : ∀ u ∈ ds, u.oneCell' = true)
  (h : ∀ w2, Row w2 g t ds -> But w.heap.size g w w2 -> w2.heap.size = w.heap.size -> S w2 /\ wpAnyH P md ops Q S fuel (listed.setIfInBounds i true) a w2) : HStep P md ops Q S fuel listed a w i := by
 unfold HStep;cases ho : ops[i]? with
 | none => rw [ho] at hop; cases hop
 | some op =>
  rw [ho] at hop hw;simp only [Option.map_some, Option.some.injEq, Prod.mk.injEq] at hop hw;refine wpOp_step ho fun K' hK => ?_
  rw [if_pos hw];refine wp_store_row ty x y hop.1 g ds.toArray hx hy t cs.toArray hr (by simpa using hi) (by simpa using hold) (all_oneCell_toArray h1) (hK _ _ ?_);rw [hop.2];exact h _ (hr.setRow ds) ⟨rfl, rfl, rfl, Nat.le_of_eq (by simp), fun k _ hk => Go.setRow_other w g k _ hk⟩ (by simp)
theorem step_store1 (i : Nat) (opv : Op) (hop : (ops[i]?).map (fun o => (o.op, o.type, o.dst)) = some (opv, 0, none)) (hw : (ops[i]?).map (fun o => Region.wanted o (yielded ops a.tmps)) = some true)
  (w' : World) (hrun : (execOp a.eval ⟨none, opv, 0, "", #[], none⟩).run P w = .ok .skip w') (h : S w' /\ wpAnyH P md ops Q S fuel (listed.setIfInBounds i true) a w') : HStep P md ops Q S fuel listed a w i := by
 unfold HStep;cases ho : ops[i]? with
 | none => rw [ho] at hop; cases hop
 | some op =>
  rw [ho] at hop hw;simp only [Option.map_some, Option.some.injEq, Prod.mk.injEq] at hop hw;obtain ⟨dst', op', ty', pos', after', guard'⟩ := op;obtain ⟨rfl, rfl, rfl⟩ := hop;have hrun' : (execOp a.eval ⟨none, op', 0, pos', after', guard'⟩).run P w = .ok .skip w' := by
   rw [<- hrun];unfold execOp;rfl
  refine wpOp_step ho fun K' hK => ?_
  rw [if_pos hw];unfold Oper.wp;rw [hrun'];exact hK _ _ h
end
theorem own_step {w w' : World} {base : Nat} {e : TypeId} {v : Value} {n : Nat} {xs : List Value} (h : w.ownsRow base e 1 v n xs) (hb : Below w.heap.size w w') : w'.ownsRow base e 1 v n xs := by
 refine ⟨h.1, ?_⟩
 rcases h.2 with h0 | ⟨g, cap, cur, hv, hg, hr, hrest⟩
 ·exact .inl h0
 ·exact .inr ⟨g, cap, cur, hv, hg, (hb.block g (Array.getElem?_eq_some_iff.1 hr).1).trans hr, hrest⟩
def WordOk (w : World) (x : UInt32) (e : Ending) (w' : World) : Prop := e = .returned (.int .u32 (x.toNat : Int)) /\ Below w.heap.size w w'
set_option maxHeartbeats 400000 in
theorem word_any (b : List UInt8) (t : Nat) (w : World) (hb : b.length = 64) (ht : t < 16) :
  Calls Tryz.prog 146 #[.agg (Lib.byteCells b).toArray, .int .i64 (t : Int)] w (WordOk w (wordB b t)) := by
 unfold WordOk;generalize hn0 : w.heap.size = n0 at *;have hr : ∀ o, Row ((w.alloc (.cells (Lib.byteCells b).toArray 147)).alloc o) n0 147 (Lib.byteCells b) := fun o => (Row.new_ hn0.symm rfl).alloc _
 have hr0 : Row (w.alloc (.cells (Lib.byteCells b).toArray 147)) n0 147 (Lib.byteCells b) := Row.new_ hn0.symm rfl
 have HW : Hid (((bigN [b[4 * t]'(by omega), b[4 * t + 1]'(by omega), b[4 * t + 2]'(by omega), b[4 * t + 3]'(by omega)] : Nat) : Int) % 4294967296 = ((wordB b t).toNat : Int)) := Lib.hid (by
  rw [<- wordB_of b t (by omega)];have := (wordB b t).toNat_lt
  omega)
 have k0 := hr0.cell (4 * t);have k1 := hr0.cell (4 * t + 1);have k2 := hr0.cell (4 * t + 2);have k3 := hr0.cell (4 * t + 3);rw [byteCells_get b _ (by omega)] at k0 k1 k2 k3;generalize b[4 * t]'(by omega) = x0 at *;generalize b[4 * t + 1]'(by omega) = x1 at *;generalize b[4 * t + 2]'(by omega) = x2 at *;generalize b[4 * t + 3]'(by omega) = x3 at *;clear hr;obtain ⟨i0, hi0⟩ : ∃ i0, i0 = 4 * t := ⟨_, rfl⟩;obtain ⟨i1, hi1⟩ : ∃ i1, i1 = 4 * t + 1 := ⟨_, rfl⟩;obtain ⟨i2, hi2⟩ : ∃ i2, i2 = 4 * t + 2 := ⟨_, rfl⟩;obtain ⟨i3, hi3⟩ : ∃ i3, i3 = 4 * t + 3 := ⟨_, rfl⟩;rw [<- hi0] at k0;rw [<- hi1] at k1;rw [<- hi2] at k2;rw [<- hi3] at k3;have q0 : IntKind.i64.wrap (4 * (t : Int)) = (i0 : Int) := by rw [IntKind.wrap_i64]; omega
 have q1 : IntKind.i64.wrap ((i0 : Int) + 1) = (i1 : Int) := by rw [IntKind.wrap_i64]; omega
 have q2 : IntKind.i64.wrap ((i0 : Int) + 2) = (i2 : Int) := by rw [IntKind.wrap_i64]; omega
 have q3 : IntKind.i64.wrap ((i0 : Int) + 3) = (i3 : Int) := by rw [IntKind.wrap_i64]; omega
 have g0 : (i0 : Int) < 64 := by omega
 have g1 : (i1 : Int) < 64 := by omega
 have g2 : (i2 : Int) < 64 := by omega
 have g3 : (i3 : Int) < 64 := by omega
 clear hi0 hi1 hi2 hi3;generalize hWA : w.alloc (.cells (Lib.byteCells b).toArray 147) = wA at *;have hszA : wA.heap.size = n0 + 1 := by rw [<- hWA, asz, hn0]
 have hbA : Below n0 w wA := by rw [<- hWA]; exact (Below.refl _ _).alloc (by omega) _
 have hnA : n0 < wA.heap.size := by omega
 have hsl : ∀ T, Sl (wA.drew.alloc (.cells #[.int .u8 (x0.toNat : Int), .int .u8 (x1.toNat : Int), .int .u8 (x2.toNat : Int), .int .u8 (x3.toNat : Int)] T)) (wA.heap.size + 1) (.slice (some ⟨wA.heap.size, 0, none⟩) 4 4) [x0, x1, x2, x3] := fun T =>
  Sl.of_bytes (T := T) (Row.new_ (by rfl) (by rfl)) (Nat.lt_succ_self _) (by rfl) (by decide)
 have d0 : wA.drew.cell? ⟨n0, i0, none⟩ = some (.int .u8 (x0.toNat : Int)) := k0;have d1 : wA.drew.cell? ⟨n0, i1, none⟩ = some (.int .u8 (x1.toNat : Int)) := k1;have d2 : wA.drew.cell? ⟨n0, i2, none⟩ = some (.int .u8 (x2.toNat : Int)) := k2;have d3 : wA.drew.cell? ⟨n0, i3, none⟩ = some (.int .u8 (x3.toNat : Int)) := k3;have hnD : n0 < wA.drew.heap.size := hnA;go_enter Tryz.func146, Tryz.ntmps146;go_wp2
 go_still_tail 19, (by kernel_rfl)
 change wpList _ _ _ _ _ wA.drew
 have hb2 : ∀ o, Below n0 w (wA.drew.alloc o) := fun o => hbA.drew.alloc (by show n0 <= wA.heap.size; omega) o
 have hsw : wA.heap.size = wA.drew.heap.size := rfl;rw [hsw] at hsl;clear hWA hr0 k0 k1 k2 k3 d0 d1 d2 d3 hbA hsw hszA hnA hnD;generalize wA.drew = w2 at *
 go_wp2_with (go_at_call 70; refine (refNumber_any (w2.heap.size + 1) (.slice (some ⟨w2.heap.size, 0, none⟩) 4 4) [x0, x1, x2, x3] _ (hsl _) (by simp) (by simp)).mono ?_)
 rintro e w' ⟨rfl, rfl⟩;go_wp2;go_ret;refine ⟨?_, hb2 _⟩;rw [<- HW.out];rfl
theorem constants_any (w : World) : Calls Tryz.prog 145 #[] w fun e w' => e = .returned (.agg (wordCells cK).toArray) /\ Below w.heap.size w w' := by
 have hl : cK.length = 64 := rfl;go_enter Tryz.func145, Tryz.ntmps145
 go_wp2_with (first | refine wpList_build_eq rfl 167 _ rfl (wordCells cK).toArray (by kernel_rfl) ?_ | refine wpList_store_any rfl 167 (.tmp 0) (.tmp 1) rfl w.heap.size rfl (wordCells cK) rfl 167 (wordCells (List.replicate 64 0)) (Row.new_ rfl zero64w) (info_w64.trans (size_words _ _ hl)) (by rw [wordCells_length, wordCells_length]; rfl) (cell_oneWord _) ?_)
 intro w2 hr2 bt _
 try simp only [asz] at bt
 go_wp2;exact ret_row Tryz.results145 rfl rfl hr2 Tryz.underlying167 rfl (info_w64.trans (size_words _ _ hl)) ⟨rfl, (Below.alloc (Below.refl _ _) (Nat.le_refl _) _).trans (bt.under (Nat.le_succ _) (Nat.le_refl _))⟩
theorem sm1_bits (y : UInt32) : bits .xor .u32 (bits .xor .u32 ((rotr y 17).toNat : Int) ((rotr y 19).toNat : Int)) ((y.toNat : Int) / 1024) = ((sm1 y).toNat : Int) := by
 have h := u32_shr y 10;simp only [Int.reducePow] at h;rw [h, u32_xor, u32_xor];rfl
theorem sm0_bits (y : UInt32) : bits .xor .u32 (bits .xor .u32 ((rotr y 7).toNat : Int) ((rotr y 18).toNat : Int)) ((y.toNat : Int) / 8) = ((sm0 y).toNat : Int) := by
 have h := u32_shr y 3;simp only [Int.reducePow] at h;rw [h, u32_xor, u32_xor];rfl
theorem addSt_comm (s v : St) : addSt s v = addSt v s := by simp [addSt, UInt32.add_comm]
theorem rot_17 (x : UInt32) (w : World) : Calls Tryz.prog 147 #[.int .u32 (x.toNat : Int), .int .u64 17] w (WordIs w (rotr x 17)) := rot_any x 17 (by decide) (by decide) w
theorem rot_19 (x : UInt32) (w : World) : Calls Tryz.prog 147 #[.int .u32 (x.toNat : Int), .int .u64 19] w (WordIs w (rotr x 19)) := rot_any x 19 (by decide) (by decide) w
theorem rot_7 (x : UInt32) (w : World) : Calls Tryz.prog 147 #[.int .u32 (x.toNat : Int), .int .u64 7] w (WordIs w (rotr x 7)) := rot_any x 7 (by decide) (by decide) w
theorem rot_18 (x : UInt32) (w : World) : Calls Tryz.prog 147 #[.int .u32 (x.toNat : Int), .int .u64 18] w (WordIs w (rotr x 18)) := rot_any x 18 (by decide) (by decide) w
theorem rot_6 (x : UInt32) (w : World) : Calls Tryz.prog 147 #[.int .u32 (x.toNat : Int), .int .u64 6] w (WordIs w (rotr x 6)) := rot_any x 6 (by decide) (by decide) w
theorem rot_11 (x : UInt32) (w : World) : Calls Tryz.prog 147 #[.int .u32 (x.toNat : Int), .int .u64 11] w (WordIs w (rotr x 11)) := rot_any x 11 (by decide) (by decide) w
theorem rot_25 (x : UInt32) (w : World) : Calls Tryz.prog 147 #[.int .u32 (x.toNat : Int), .int .u64 25] w (WordIs w (rotr x 25)) := rot_any x 25 (by decide) (by decide) w
theorem rot_2 (x : UInt32) (w : World) : Calls Tryz.prog 147 #[.int .u32 (x.toNat : Int), .int .u64 2] w (WordIs w (rotr x 2)) := rot_any x 2 (by decide) (by decide) w
theorem rot_13 (x : UInt32) (w : World) : Calls Tryz.prog 147 #[.int .u32 (x.toNat : Int), .int .u64 13] w (WordIs w (rotr x 13)) := rot_any x 13 (by decide) (by decide) w
theorem rot_22 (x : UInt32) (w : World) : Calls Tryz.prog 147 #[.int .u32 (x.toNat : Int), .int .u64 22] w (WordIs w (rotr x 22)) := rot_any x 22 (by decide) (by decide) w
set_option maxHeartbeats 1000000 in
theorem refCompress_any (s : St) (b : List UInt8) (hb : b.length = 64) (w : World) :
  Calls Tryz.prog 125 #[.agg (wordCells s.list).toArray, .agg (Lib.byteCells b).toArray] w (StIs w (comp s b)) := by
 unfold StIs;generalize hn0 : w.heap.size = n0 at *;have hKl := cK_length;go_enter Tryz.func125, Tryz.ntmps125
 go_wp2_with (go_at_call 145; refine (constants_any _).mono ?_)
 rintro e w1 ⟨rfl, b1⟩;rw [asz, asz, asz, hn0] at b1;have hr0 : Row w1 n0 63 (wordCells s.list) := (((Row.new_ hn0.symm rfl).alloc _).alloc _).below b1 (by omega);have hr1 : Row w1 (n0 + 1) 147 (Lib.byteCells b) := ((Row.new_ (by rw [asz, hn0]) rfl).alloc _).below b1 (by omega);have hr2 : Row w1 (n0 + 2) 63 (wordCells (List.replicate 8 0)) := (Row.new_ (by rw [asz, asz, hn0]) zero8w).below b1 (by omega);have hb1 : Below n0 w w1 := ((((Below.refl n0 w).alloc (by omega) _).alloc (by rw [asz]; omega) _).alloc (by rw [asz, asz]; omega) _).trans (b1.mono (by omega));have hs1 := b1.size;rw [asz, asz, asz, hn0] at hs1;clear b1
 go_wp2_with (refine wpList_store_any rfl 167 (.tmp 5) (.tmp 19) rfl w1.heap.size rfl (wordCells cK) rfl 167 (wordCells (List.replicate 64 0)) (Row.new_ rfl zero64w) (info_w64.trans (size_words _ _ hKl)) (by rw [wordCells_length, wordCells_length]; rfl) (cell_oneWord _) ?_)
 intro w2 hr5 bt hs2
 try simp only [asz] at bt hs2
 replace hr0 := bt.row (hr0.alloc _) (by omega) (by omega);replace hr1 := bt.row (hr1.alloc _) (by omega) (by omega);replace hr2 := bt.row (hr2.alloc _) (by omega) (by omega);have hb2 : Below n0 w w2 := (hb1.alloc (by omega) _).trans (bt.under (by omega) (by omega));generalize hn5 : w1.heap.size = n5 at *;clear bt hb1 hn5;have h5 : n0 + 2 < n5 := by omega
 clear hs1;go_wp2;have hr6 : Row (w2.alloc (.cells (wordCells (List.replicate 64 0)).toArray 167)) w2.heap.size 167 (wordCells (List.replicate 64 0)) := Row.new_ rfl rfl;have h6 : n5 < w2.heap.size := by omega
 replace hr0 := hr0.alloc (.cells (wordCells (List.replicate 64 0)).toArray 167);replace hr1 := hr1.alloc (.cells (wordCells (List.replicate 64 0)).toArray 167);replace hr2 := hr2.alloc (.cells (wordCells (List.replicate 64 0)).toArray 167);replace hr5 := hr5.alloc (.cells (wordCells (List.replicate 64 0)).toArray 167);replace hb2 := hb2.alloc (o := .cells (wordCells (List.replicate 64 0)).toArray 167) (by omega);rw [hs2] at hr6;clear h6;go_loopw [7, 8, 9, 20] (fun _ _ _ i wr => ∃ k : Nat, k <= 64 /\ i = .int .i64 k /\ Row wr n0 63 (wordCells s.list) /\ Row wr (n0 + 1) 147 (Lib.byteCells b) /\ Row wr (n0 + 2) 63 (wordCells (List.replicate 8 0)) /\ Row wr n5 167 (wordCells cK) /\ Row wr (n5 + 1) 167 (wordCells (sched b k ++ List.replicate (64 - k) 0)) /\ Below n0 w wr) (fun _ _ _ i _ => 64 - (intOf i).toNat)
 case atStart => exact ⟨0, by omega, rfl, hr0, hr1, hr2, hr5, hr6, hb2⟩
 case round =>
  clear hr0 hr1 hr2 hr5 hr6 hb2;obtain ⟨k, hk, rfl, hr0, hr1, hr2, hr5, hr6, hb2⟩ := hrel
  by_cases hlt : k < 64
  ·have hcx := hr6.cell k;rw [wordCells_get _ _ (by simp [sched_length]; omega)] at hcx;have hf := hr6.free k
   by_cases h16 : k < 16
   ·have hhx : ∀ wz, Row wz (n5 + 1) 167 (wordCells (sched b k ++ List.replicate (64 - k) 0)) -> Row (wz.setCell ⟨(n5 + 1), k, none⟩ (.int .u32 ((wordB b k).toNat : Int))) (n5 + 1) 167 (wordCells (sched b (k + 1) ++ List.replicate (64 - (k + 1)) 0)) := fun wz hz => by
     have hs := hz.set_ k (.int .u32 ((nextW b (sched b k)).toNat : Int));rw [wordCells_set, sched_set b k 64 _ (by omega) rfl, nextW_lo b k h16] at hs;exact hs
    have hcx2 : ∃ z : UInt32, (sched b k ++ List.replicate (64 - k) (0 : UInt32))[k]? = some z := ⟨_, List.getElem?_eq_getElem (by simp [sched_length]; omega)⟩
    go_wp2_with (first | refine wpList_load_any rfl 147 (.tmp 3) rfl (n0 + 1) rfl 147 (Lib.byteCells b) (.array 64 5) hr1 Tryz.underlying147 rfl (info_b64.trans (size_bytes _ _ hb)) ?_ | (go_at_call 146; refine (word_any b k _ hb h16).mono ?_))
    rintro e w7 ⟨rfl, b7⟩;have r0 := hr0.below b7 hr0.lt;have r1 := hr1.below b7 hr1.lt;have r2 := hr2.below b7 hr2.lt;have r5 := hr5.below b7 hr5.lt;have r6 := hr6.below b7 hr6.lt;have hb7 := hb2.trans (b7.mono (Nat.le_of_lt hr0.lt));have hcy := r6.cell k;rw [wordCells_get _ _ (by simp [sched_length]; omega)] at hcy;have hfy := r6.free k;have HR := Lib.hid (hhx w7 r6);clear hr0 hr1 hr2 hr5 hr6 hb2 b7 hcx hf hhx hcx2;generalize wordB b k = x at *;go_wp2
    go_roundw
    case rel => exact ⟨k + 1, by omega, by go_num, r0.other _ _ (by show n0 ≠ (n5 + 1); omega), r1.other _ _ (by show n0 + 1 ≠ (n5 + 1); omega), r2.other _ _ (by show n0 + 2 ≠ (n5 + 1); omega), r5.other _ _ (by show n5 ≠ (n5 + 1); omega), HR.out, hb7.setCell (p := ⟨(n5 + 1), k, none⟩) (by show n0 <= (n5 + 1); omega) _⟩
    case measure => simp [intOf]; omega
   ·have hk1 : 16 <= k := by omega
    have hw : ∀ d (h1 : 1 <= d) (h2 : d <= 16), ∃ (j : Nat) (x : UInt32), (j + d = k /\ x = (sched b k).getD (k - d) 0) /\ wr.cell? ⟨n5 + 1, j, none⟩ = some (.int .u32 (x.toNat : Int)) /\ IntKind.i64.wrap ((k : Int) - (d : Int)) = (j : Int) /\ (j : Int) < 64 /\ ¬ j = k := fun d h1 h2 => by
     refine ⟨k - d, _, ⟨by omega, rfl⟩, ?_, by rw [IntKind.wrap_i64]; omega, by omega, by omega⟩;rw [hr6.cell (k - d), wordCells_get _ _ (by simp [sched_length]; omega), List.getElem_append_left (by rw [sched_length]; omega)];simp [List.getD, sched_length, show k - d < k by omega]
    obtain ⟨j2, x2, hx2, hc2, q2, b2, e2⟩ := hw 2 (by omega) (by omega);obtain ⟨j7, x7, hx7, hc7, q7, b7, e7⟩ := hw 7 (by omega) (by omega);obtain ⟨j15, x15, hx15, hc15, q15, b15, e15⟩ := hw 15 (by omega) (by omega);obtain ⟨j16, x16, hx16, hc16, q16, b16, e16⟩ := hw 16 (by omega) (by omega);clear hw;replace q2 : IntKind.i64.wrap ((k : Int) - 2) = (j2 : Int) := q2;replace q7 : IntKind.i64.wrap ((k : Int) - 7) = (j7 : Int) := q7;replace q15 : IntKind.i64.wrap ((k : Int) - 15) = (j15 : Int) := q15;replace q16 : IntKind.i64.wrap ((k : Int) - 16) = (j16 : Int) := q16;have HX := Lib.hid (And.intro hx2 (And.intro hx7 (And.intro hx15 hx16)));clear hx2 hx7 hx15 hx16;go_wp2
    go_quiet (fail)
    go_wp2;replace hr0 : Row (wr.drewN nq) n0 63 (wordCells s.list) := hr0;replace hr1 : Row (wr.drewN nq) (n0 + 1) 147 (Lib.byteCells b) := hr1;replace hr2 : Row (wr.drewN nq) (n0 + 2) 63 (wordCells (List.replicate 8 0)) := hr2;replace hr5 : Row (wr.drewN nq) n5 167 (wordCells cK) := hr5;replace hr6 : Row (wr.drewN nq) (n5 + 1) 167 (wordCells (sched b k ++ List.replicate (64 - k) 0)) := hr6;replace hb2 : Below n0 w (wr.drewN nq) := below_drewN hb2 nq;replace hc7 : (wr.drewN nq).cell? ⟨n5 + 1, j7, none⟩ = some (.int .u32 (x7.toNat : Int)) := hc7;replace hc16 : (wr.drewN nq).cell? ⟨n5 + 1, j16, none⟩ = some (.int .u32 (x16.toNat : Int)) := hc16;replace hf : (wr.drewN nq).frozen? ⟨n5 + 1, k, none⟩ = false := hf;replace hcx : (wr.drewN nq).cell? ⟨n5 + 1, k, none⟩ = some _ := hcx;clear hc2 hc15;generalize wr.drewN nq = wq at *
    go_region_held3 (fun w' => w'.cell? ⟨n5 + 1, j7, none⟩ = some (.int .u32 (x7.toNat : Int)) /\ w'.cell? ⟨n5 + 1, j16, none⟩ = some (.int .u32 (x16.toNat : Int))) (first | exact ⟨cell_set_other hc7 e7, cell_set_other hc16 e16⟩ | exact ⟨hc7, hc16⟩) (first | (go_at_call 147; (with_reducible refine (rot_17 _ _).mono ?_); rintro e w' ⟨rfl, rfl⟩) | (go_at_call 147; (with_reducible refine (rot_19 _ _).mono ?_); rintro e w' ⟨rfl, rfl⟩) | (go_at_call 147; (with_reducible refine (rot_7 _ _).mono ?_); rintro e w' ⟨rfl, rfl⟩) | (go_at_call 147; (with_reducible refine (rot_18 _ _).mono ?_); rintro e w' ⟨rfl, rfl⟩))
    go_wp2
    go_roundw
    case rel =>
     refine ⟨k + 1, by omega, by go_num, hr0.beside (by omega), hr1.beside (by omega), hr2.beside (by omega), hr5.beside (by omega), ?_, below_set2 hb2 (by omega)⟩;have hs := hr6.set_ k (.int .u32 ((nextW b (sched b k)).toNat : Int));obtain ⟨⟨_, y2⟩, ⟨_, y7⟩, ⟨_, y15⟩, ⟨_, y16⟩⟩ := HX.out;rw [wordCells_set, sched_set b k 64 _ (by omega) rfl, nextW_hi b k hk1, <- y2, <- y7, <- y15, <- y16] at hs;simp only [sm1_bits, sm0_bits, u32_add];exact hs
    case measure => simp [intOf]; omega
  ·rw [show k = 64 by omega, Nat.sub_self, List.replicate_zero, List.append_nil] at hr6;have hWl := sched_length b 64;obtain ⟨W, HW⟩ : ∃ W, Hid (W = sched b 64) := ⟨_, Lib.hid rfl⟩;rw [<- HW.out] at hr6 hWl;have h56 := hr6.lt
   go_wp2_with (first | refine wpList_load_any rfl 63 (.tmp 2) rfl n0 rfl 63 (wordCells s.list) (.array 8 22) hr0 Tryz.underlying63 rfl (info_w8.trans (size_words _ _ rfl)) ?_ | refine wpList_store_any rfl 63 (.tmp 10) (.tmp 68) rfl wr.heap.size rfl (wordCells s.list) rfl 63 (wordCells (List.replicate 8 0)) (Row.new_ rfl zero8w) (info_w8.trans (size_words _ _ rfl)) rfl (cell_oneWord _) ?_)
   intro w9 hv0 bt hs9
   try simp only [asz] at bt hs9
   replace hr0 := bt.row (hr0.alloc _) (by omega) (by omega);replace hr2 := bt.row (hr2.alloc _) (by omega) (by omega);replace hr5 := bt.row (hr5.alloc _) (by omega) (by omega);replace hr6 := bt.row (hr6.alloc _) (by omega) (by omega);replace hb2 : Below n0 w w9 := (hb2.alloc (by omega) _).trans (bt.under (by omega) (by omega));clear hr1 bt hs9;generalize wr.heap.size = n10 at *;go_wp2;go_loopw [11, 12, 13, 14, 15, 16, 17, 69] (fun _ _ _ _ _ _ _ i wr => ∃ (k : Nat) (v : St), k <= 64 /\ i = .int .i64 k /\ Hid (rounds s W k = v) /\ Row wr n10 63 (wordCells v.list) /\ Row wr n0 63 (wordCells s.list) /\ Row wr (n0 + 2) 63 (wordCells (List.replicate 8 0)) /\ Row wr n5 167 (wordCells cK) /\ Row wr (n5 + 1) 167 (wordCells W) /\ Below n0 w wr) (fun _ _ _ _ _ _ _ i _ => 64 - (intOf i).toNat)
   case atStart => exact ⟨0, s, by omega, rfl, Lib.hid rfl, hv0, hr0, hr2, hr5, hr6, hb2⟩
   case round =>
    clear hv0 hr0 hr2 hr5 hr6 hb2;obtain ⟨k2, v, hk2, rfl, HV, hv0, hr0, hr2, hr5, hr6, hb2⟩ := hrel
    by_cases hlt2 : k2 < 64
    ·have hc : ∀ j (h : j < 8), wr.cell? ⟨n10, j, none⟩ = some (.int .u32 ((v.list[j]'h).toNat : Int)) := fun j h => by rw [hv0.cell j, wordCells_get _ _ h]
     have ck := hr5.cell k2;rw [wordCells_get _ _ (by rw [hKl]; exact hlt2)] at ck;have cw := hr6.cell k2;rw [wordCells_get _ _ (by omega)] at cw;obtain ⟨kk, hkk⟩ : ∃ kk, kk = cK[k2]'(by rw [hKl]; exact hlt2) := ⟨_, rfl⟩;obtain ⟨ww, hww⟩ : ∃ ww, ww = W[k2]'(by omega) := ⟨_, rfl⟩;rw [<- hkk] at ck;rw [<- hww] at cw
     have HR2 : Hid (rounds s W (k2 + 1) = rnd v kk ww) := Lib.hid (by
      rw [rounds, HV.out, hkk, hww, getD_get W k2 0 (by omega), getD_get cK k2 0 (by rw [hKl]; exact hlt2)])
     clear hkk hww HV;have c0 : wr.cell? ⟨n10, 0, none⟩ = some (.int .u32 (v.a.toNat : Int)) := hc 0 (by decide);have c1 : wr.cell? ⟨n10, 1, none⟩ = some (.int .u32 (v.b.toNat : Int)) := hc 1 (by decide);have c2 : wr.cell? ⟨n10, 2, none⟩ = some (.int .u32 (v.c.toNat : Int)) := hc 2 (by decide);have c3 : wr.cell? ⟨n10, 3, none⟩ = some (.int .u32 (v.d.toNat : Int)) := hc 3 (by decide);have c4 : wr.cell? ⟨n10, 4, none⟩ = some (.int .u32 (v.e.toNat : Int)) := hc 4 (by decide);have c5 : wr.cell? ⟨n10, 5, none⟩ = some (.int .u32 (v.f.toNat : Int)) := hc 5 (by decide);have c6 : wr.cell? ⟨n10, 6, none⟩ = some (.int .u32 (v.g.toNat : Int)) := hc 6 (by decide);have c7 : wr.cell? ⟨n10, 7, none⟩ = some (.int .u32 (v.h.toNat : Int)) := hc 7 (by decide);clear hc;go_wp2
     go_quiet (fail)
     go_wp2;replace c0 : (wr.drewN nq).cell? ⟨n10, 0, none⟩ = some (.int .u32 (v.a.toNat : Int)) := c0;replace c1 : (wr.drewN nq).cell? ⟨n10, 1, none⟩ = some (.int .u32 (v.b.toNat : Int)) := c1;replace c2 : (wr.drewN nq).cell? ⟨n10, 2, none⟩ = some (.int .u32 (v.c.toNat : Int)) := c2;replace c3 : (wr.drewN nq).cell? ⟨n10, 3, none⟩ = some (.int .u32 (v.d.toNat : Int)) := c3;replace c4 : (wr.drewN nq).cell? ⟨n10, 4, none⟩ = some (.int .u32 (v.e.toNat : Int)) := c4;replace c5 : (wr.drewN nq).cell? ⟨n10, 5, none⟩ = some (.int .u32 (v.f.toNat : Int)) := c5;replace c6 : (wr.drewN nq).cell? ⟨n10, 6, none⟩ = some (.int .u32 (v.g.toNat : Int)) := c6;replace c7 : (wr.drewN nq).cell? ⟨n10, 7, none⟩ = some (.int .u32 (v.h.toNat : Int)) := c7;replace hv0 : Row (wr.drewN nq) n10 63 (wordCells v.list) := hv0;replace hr0 : Row (wr.drewN nq) n0 63 (wordCells s.list) := hr0;replace hr2 : Row (wr.drewN nq) (n0 + 2) 63 (wordCells (List.replicate 8 0)) := hr2;replace hr5 : Row (wr.drewN nq) n5 167 (wordCells cK) := hr5;replace hr6 : Row (wr.drewN nq) (n5 + 1) 167 (wordCells W) := hr6;replace hb2 : Below n0 w (wr.drewN nq) := below_drewN hb2 nq;replace ck : (wr.drewN nq).cell? ⟨n5, k2, none⟩ = some (.int .u32 (kk.toNat : Int)) := ck;replace cw : (wr.drewN nq).cell? ⟨n5 + 1, k2, none⟩ = some (.int .u32 (ww.toNat : Int)) := cw;generalize wr.drewN nq = wq at *
     go_region_held3 (fun w' => w'.cell? ⟨n10, 7, none⟩ = some (.int .u32 (v.h.toNat : Int)) /\ w'.cell? ⟨n5, k2, none⟩ = some (.int .u32 (kk.toNat : Int)) /\ w'.cell? ⟨n5 + 1, k2, none⟩ = some (.int .u32 (ww.toNat : Int))) (exact ⟨c7, ck, cw⟩) (first | (go_at_call 147; (with_reducible refine (rot_6 _ _).mono ?_); rintro e w' ⟨rfl, rfl⟩) | (go_at_call 147; (with_reducible refine (rot_11 _ _).mono ?_); rintro e w' ⟨rfl, rfl⟩) | (go_at_call 147; (with_reducible refine (rot_25 _ _).mono ?_); rintro e w' ⟨rfl, rfl⟩))
     go_wp2_with (first | (go_at_call 147; (with_reducible refine (rot_2 _ _).mono ?_); rintro e w' ⟨rfl, rfl⟩) | (go_at_call 147; (with_reducible refine (rot_13 _ _).mono ?_); rintro e w' ⟨rfl, rfl⟩) | (go_at_call 147; (with_reducible refine (rot_22 _ _).mono ?_); rintro e w' ⟨rfl, rfl⟩) | refine wpList_store_any rfl 63 (.tmp 10) (.tmp 149) rfl n10 rfl _ rfl 63 (wordCells v.list) hv0 (info_w8.trans rfl) rfl (by intro u hu; simp only [List.mem_cons, List.not_mem_nil, or_false] at hu; rcases hu with rfl | rfl | rfl | rfl | rfl | rfl | rfl | rfl <;> rfl) ?_)
     intro w5 hv5 bt5 _;simp only [u32_not, u32_and, u32_or, u32_xor] at hv5;have hv6 : Row w5 n10 63 (wordCells (rnd v kk ww).list) := by
      refine Eq.mp (congrArg (Row w5 n10 63) ?_) hv5;simp only [wordCells, St.list, rnd, List.map_cons, List.map_nil, List.cons.injEq, Value.int.injEq, true_and, and_true]
      constructor
      ·simp only [UInt32.toNat_add, bg1, chw, bg0, mjw];omega
      ·simp only [UInt32.toNat_add, bg1, chw];omega
     have x0 := bt5.row (show Row _ n0 _ _ from hr0) (Nat.lt_trans (by omega) hv0.lt) (by omega);have x2 := bt5.row (show Row _ (n0 + 2) _ _ from hr2) (Nat.lt_trans (by omega) hv0.lt) (by omega);have x5 := bt5.row (show Row _ n5 _ _ from hr5) (Nat.lt_trans (by omega) hv0.lt) (by omega);have x6 := bt5.row (show Row _ (n5 + 1) _ _ from hr6) (Nat.lt_trans (by omega) hv0.lt) (by omega);have xb : Below n0 w w5 := hb2.drew.trans (bt5.under (Nat.le_of_lt (Nat.lt_trans (by omega) hv0.lt)) (by omega));clear hv5 bt5 hv0 hr0 hr2 hr5 hr6 hb2 c0 c1 c2 c3 c4 c5 c6 c7 ck cw;go_wp2
     go_roundw
     case rel => exact ⟨k2 + 1, _, by omega, by go_num, HR2, hv6, x0, x2, x5, x6, xb⟩
     case measure => simp [intOf]; omega
    ·rw [show k2 = 64 by omega] at HV;clear hr5 hr6;have HF : Hid (addSt v s = comp s b) := Lib.hid (by rw [comp, <- HW.out, HV.out, addSt_comm]);go_wp2;go_loopw [18, 151] (fun _ i wr => ∃ (k : Nat), k <= 8 /\ i = .int .i64 k /\ Row wr n10 63 (wordCells (addL v.list s.list k)) /\ Row wr n0 63 (wordCells s.list) /\ Row wr (n0 + 2) 63 (wordCells (List.replicate 8 0)) /\ Below n0 w wr) (fun _ i _ => 8 - (intOf i).toNat)
     case atStart => exact ⟨0, by omega, rfl, hv0, hr0, hr2, hb2⟩
     case round =>
      clear hv0 hr0 hr2 hb2;obtain ⟨j, hj, rfl, hv0, hr0, hr2, hb2⟩ := hrel
      by_cases hlt3 : j < 8
      ·have hsl : s.list.length = 8 := rfl;have hvl : v.list.length = 8 := rfl;have hc := hv0.cell j;rw [wordCells_get _ _ (by rw [addL_length _ _ _ (by omega) (by omega)]; omega), (List.getElem_eq_iff (by rw [addL_length _ _ _ (by omega) (by omega)]; omega)).2 (addL_get v.list s.list j (by omega) (by omega))] at hc;have hd := hr0.cell j;rw [wordCells_get _ _ (by omega)] at hd;have hf := hv0.free j;have HS := Lib.hid (addL_step v.list s.list j (by omega) (by omega));obtain ⟨x, hx⟩ : ∃ x, x = v.list[j]'(by omega) := ⟨_, rfl⟩;obtain ⟨y, hy⟩ : ∃ y, y = s.list[j]'(by omega) := ⟨_, rfl⟩;rw [<- hx] at hc;rw [<- hy] at hd;rw [<- hx, <- hy] at HS;clear hx hy;go_wp2
       go_region
       go_wp2
       go_roundw
       case rel =>
        have hs := hv0.set_ j (.int .u32 ((x + y).toNat : Int));rw [wordCells_set, HS.out] at hs;refine ⟨j + 1, by omega, by go_num, ?_, hr0.beside (by omega), hr2.beside (by omega), below_set2 hb2 (by omega)⟩;simp only [u32_add];exact hs
       case measure => simp [intOf]; omega
      ·obtain rfl : j = 8 := by omega
       rw [addL_all] at hv0;obtain ⟨cc, HC⟩ : ∃ cc, Hid (cc = addSt v s) := ⟨_, Lib.hid rfl⟩;rw [<- HC.out] at hv0 HF;clear hr0
       go_wp2_with (first | refine wpList_load_any rfl 63 (.tmp 10) rfl n10 rfl 63 (wordCells cc.list) (.array 8 22) hv0 Tryz.underlying63 rfl (info_w8.trans (size_words 8 cc.list (St.list_length cc))) ?_ | refine wpList_store_any rfl 63 (.tmp 4) (.tmp 163) rfl (n0 + 2) rfl (wordCells cc.list) rfl 63 _ hr2 (info_w8.trans (size_words 8 cc.list (St.list_length cc))) rfl (cell_oneWord _) ?_)
       intro w12 hr12 b12 _;rw [HF.out] at hr12;have hb12 : Below n0 w w12 := hb2.trans (b12.under (Nat.le_trans (Nat.le_add_right n0 2) (Nat.le_of_lt hr2.lt)) (by omega));clear HC HF hv0;go_wp2;have hsz := info_w8.trans (size_words 8 (comp s b).list (St.list_length (comp s b)));exact ret_row Tryz.results125 rfl rfl hr12 Tryz.underlying63 rfl hsz ⟨rfl, hb12⟩
def OwnIs (w : World) (bs : List UInt8) (e : Ending) (w' : World) : Prop := ∃ v, e = .returned v /\ Gives w bs v w'
set_option maxHeartbeats 1000000 in
theorem refJoin_any (B g : Nat) (v : Value) (bss : List (List UInt8)) (w : World) (hp : PartsO w B g v bss) (hB : B <= w.heap.size) (hl : bss.flatten.length <= 1099511627776) (hn : bss.length <= 1000000) :
  Calls Tryz.prog 55 #[v] w (OwnIs w bss.flatten) := by
 obtain ⟨i0, hi, hz0, hz1, hz2⟩ := info_parts info_u8;obtain ⟨A, c, rfl⟩ := hp.form;go_enter Tryz.func55, Tryz.ntmps55;go_wp2;go_loopw [3, 5, 9] (fun o _ i wr => ∃ k : Nat, k <= bss.length /\ i = .int .i64 k /\ wr.ownsRow w.heap.size 5 1 o (bss.take k).flatten.length (Lib.byteCells (bss.take k).flatten) /\ Below w.heap.size w wr) (fun _ _ i _ => bss.length - (intOf i).toNat)
 case atStart =>
  exact ⟨0, Nat.zero_le _, rfl, World.ownsRow_made w #[] 0 (Nat.le_refl _) (Nat.zero_le _) rfl, (Below.refl _ _).alloc (Nat.le_refl _) _⟩
 case round =>
  obtain ⟨k, hk, rfl, hown, hbel⟩ := hrel;have hsz := hbel.size
  by_cases hlt : k < bss.length
  ·have hpr := hp.below (hbel.mono hB);obtain ⟨q, off, rfl, hq, hqg, hcc⟩ := hpr.at_ (by omega);obtain ⟨u, hu, hs, ho⟩ := hcc k hlt;have hfs := flat_snoc bss k hlt;have hfl := flat_le bss (k + 1);rw [hfs, List.length_append] at hfl;have HF := Lib.hid hfs;clear hfs hpr hcc;generalize bss[k] = cs at *;generalize (bss.take k).flatten = f0 at *
   go_wp2_with (at_builtin; refine wp_appendSl _ 23 5 i0 Tryz.underlying23 hi hz0 hz1 hz2 rfl _ _ rfl hown hs rfl rfl (by omega) hsz ?_)
   intro v' w1 hown1 _ hb1;rw [<- HF.out] at hown1;have HO := Lib.hid (own_len hown1 (show f0.length + cs.length = (bss.take (k + 1)).flatten.length by rw [HF.out, List.length_append]));clear hown1;go_wp2
   go_roundw
   case rel => exact ⟨k + 1, by omega, by go_num, HO.out, hbel.trans (hb1 _ (Nat.le_refl _))⟩
   case measure => simp [intOf]; omega
  ·obtain rfl : k = bss.length := by omega
   rw [List.take_of_length_le (Nat.le_refl _)] at hown;have HO := Lib.hid hown;clear hown;go_wp2;go_ret;exact ⟨_, rfl, HO.out, hbel⟩
theorem start_any (w : World) : Calls Tryz.prog 124 #[] w (StIs w start) := by
 unfold StIs;go_enter Tryz.func124, Tryz.ntmps124
 go_wp2_with (first | refine wpList_build_eq rfl 63 _ rfl (wordCells start.list).toArray (by kernel_rfl) ?_ | refine wpList_store_any rfl 63 (.tmp 0) (.tmp 1) rfl w.heap.size rfl (wordCells start.list) rfl 63 (wordCells (List.replicate 8 0)) (Row.new_ rfl zero8w) (info_w8.trans (size_words _ _ rfl)) rfl (cell_oneWord _) ?_)
 intro w2 hr2 bt _
 try simp only [asz] at bt
 go_wp2;exact ret_row Tryz.results124 rfl rfl hr2 Tryz.underlying63 rfl (info_w8.trans (size_words _ _ rfl)) ⟨rfl, (Below.alloc (Below.refl _ _) (Nat.le_refl _) _).trans (bt.under (Nat.le_succ _) (Nat.le_refl _))⟩
theorem two_flat (a b : List UInt8) : [a, b].flatten = a ++ b := by simp
theorem zeros_lt (n k : Nat) (h : k < zerosOf n) : ¬ (n + 1 + k) % 64 = 56 := by unfold zerosOf at h; omega
theorem zeros_eq (n : Nat) : (n + 1 + zerosOf n) % 64 = 56 := by unfold zerosOf; omega
theorem zeros_le (n : Nat) : zerosOf n <= 63 := by unfold zerosOf; omega
theorem padB_eq (m : List UInt8) : m ++ [128] ++ List.replicate (zerosOf m.length) 0 ++ bigB (8 * m.length) 8 = padB m := by simp [padB]
theorem padB_len (m : List UInt8) : (padB m).length <= m.length + 72 := by
 have := zeros_le m.length;simp only [padB, List.length_append, List.length_cons, List.length_replicate, bigB_length];omega
theorem outB_snoc (s : St) (k : Nat) (h : k < s.list.length) : (outB s).take (4 * (k + 1)) = (outB s).take (4 * k) ++ bigB ((s.list[k]'h).toNat) 4 := by
 have e : ∀ (l : List UInt32) k (h : k < l.length), (l.flatMap fun x => bigB x.toNat 4).take (4 * (k + 1)) = (l.flatMap fun x => bigB x.toNat 4).take (4 * k) ++ bigB (l[k]'h).toNat 4 := by
  intro l
  induction l with
  | nil => intro k h; simp at h
  | cons x r ih =>
   intro k h;rw [List.flatMap_cons];cases k with
   | zero =>
    rw [Nat.mul_zero, List.take_zero, List.nil_append, List.take_append_of_le_length (by rw [bigB_length]; omega), List.take_of_length_le (by rw [bigB_length]; omega)];rfl
   | succ k =>
    rw [List.take_append, List.take_append, bigB_length, List.take_of_length_le (l := bigB x.toNat 4) (by rw [bigB_length]; omega), List.take_of_length_le (l := bigB x.toNat 4) (by rw [bigB_length]; omega), show 4 * (k + 1 + 1) - 4 = 4 * (k + 1) by omega, show 4 * (k + 1) - 4 = 4 * k by omega, ih k (by simpa using h), List.append_assoc];rfl
 exact e s.list k h
theorem own_mono {w : World} {base base' e n : Nat} {v : Value} {xs : List Value} (h : w.ownsRow base' e 1 v n xs) (hb : base <= base') : w.ownsRow base e 1 v n xs := by
 refine ⟨h.1, ?_⟩
 rcases h.2 with h0 | ⟨g, cap, cur, h1, h2, h3⟩
 ·exact .inl h0
 ·exact .inr ⟨g, cap, cur, h1, Nat.le_trans hb h2, h3⟩
theorem blockAt_length (m : List UInt8) (n : Nat) (h : 64 * n + 64 <= m.length) : (blockAt m n).length = 64 := by
 simp [blockAt]; omega
theorem blockAt_get (m : List UInt8) (n k : Nat) (h : 64 * n + 64 <= m.length) (hk : k < 64) : (blockAt m n)[k]'(by rw [blockAt_length m n h]; exact hk) = m[64 * n + k]'(by omega) := by
 simp [blockAt]
set_option maxHeartbeats 1000000 in
theorem refSum_any (B : Nat) (v : Value) (m : List UInt8) (w : World) (hs : Sl w B v m) (hB : B <= w.heap.size) (hl : m.length <= 1000000000) :
  Calls Tryz.prog 100 #[v] w (OwnIs w (sha m)) := by
 unfold OwnIs;obtain ⟨A, c, rfl, _, _⟩ := hs.form;obtain ⟨i0, hi, hz0, hz1, hz2⟩ := info_parts info_u8;generalize hn0 : w.heap.size = n0 at *;have hb2 : ∀ o o2, Below n0 w ((w.alloc o).alloc o2) := fun o o2 => ((Below.refl n0 w).alloc (by omega) _).alloc (by rw [asz]; omega) _
 go_enter Tryz.func100, Tryz.ntmps100
 go_wp2_with (go_at_call 55; refine (refJoin_any (n0 + 2) (n0 + 2) _ [m, [128]] _ (PartsO.two (Nat.lt_succ_self _) (by omega) (Row.new_ (by rw [asz, hn0]) rfl) ((hs.below ((hb2 _ _).mono hB)).more (by omega)) (hs.off (by omega)) (Sl.of_bytes (T := 5) ((Row.new_ hn0.symm rfl).alloc _) (by omega) rfl (by decide)) (Off.at_ (by omega))) (by rw [asz, asz, hn0]; exact Nat.le_refl _) (by rw [two_flat, List.length_append, List.length_singleton]; omega) (by simp)).mono ?_)
 rintro e w1 ⟨v1, rfl, g1⟩;rw [two_flat] at g1;have o1 := g1.1;have b1 : Below n0 w w1 := (hb2 _ _).trans (g1.2.mono (by rw [asz, asz, hn0]; omega));have hs1 := g1.2.size;rw [asz, asz, hn0] at o1 hs1;clear g1;go_wp2;go_loopw [3] (fun o wr => ∃ k : Nat, k <= zerosOf m.length /\ wr.ownsRow (n0 + 2) 5 1 o (m ++ [128] ++ List.replicate k 0).length (Lib.byteCells (m ++ [128] ++ List.replicate k 0)) /\ Below n0 w wr /\ n0 + 2 <= wr.heap.size) (fun o _ => zerosOf m.length + m.length + 1 - slLen o)
 case atStart => exact ⟨0, Nat.zero_le _, by simpa using o1, b1, hs1⟩
 case round =>
  clear o1 b1 hs1;obtain ⟨k, hk, o1, b1, hs1⟩ := hrel;obtain ⟨A1, c1, rfl⟩ := own_form o1;have hzl := zeros_le m.length;have hlen : (m ++ [128] ++ List.replicate k (0 : UInt8)).length = m.length + 1 + k := by simp; omega
  rw [hlen] at o1;obtain ⟨R, hR⟩ : ∃ R, R = (m.length + 1 + k) % 64 := ⟨_, rfl⟩;obtain ⟨L, hL⟩ : ∃ L, L = m.length + 1 + k := ⟨_, rfl⟩;have qa : (L : Int).tmod 64 = (R : Int) := (show (L : Int).tmod 64 = ((L % 64 : Nat) : Int) from rfl).trans (by omega);have qa2 : (L : Int) % 64 = (R : Int) := by omega
  rw [hlen, <- hL];rw [<- hL] at o1
  by_cases hlt : k < zerosOf m.length
  ·have hne : ¬ R = 56 := by rw [hR]; exact zeros_lt _ _ hlt
   have HL := Lib.hid hL;have hLb : L <= 1000000100 := by omega
   clear hR hL hlen
   go_wp2_with (at_builtin; refine wp_append1 _ 23 5 i0 (.int .u8 0) Tryz.underlying23 hi hz0 hz1 hz2 rfl rfl _ _ rfl o1 rfl rfl rfl (by omega) hs1 ?_)
   intro v' w2 o2 _ b2
   have HO : Hid (w2.ownsRow (n0 + 2) 5 1 v' (m ++ [128] ++ List.replicate (k + 1) 0).length (Lib.byteCells (m ++ [128] ++ List.replicate (k + 1) 0))) := Lib.hid (by
    have e1 : (m ++ [128] ++ List.replicate (k + 1) (0 : UInt8)).length = L + 1 := by have := HL.out; simp; omega
    have e2 : Lib.byteCells (m ++ [128] ++ List.replicate (k + 1) (0 : UInt8)) = Lib.byteCells (m ++ [128] ++ List.replicate k 0) ++ [.int .u8 0] := by
     rw [List.replicate_succ', <- List.append_assoc];simp [Lib.byteCells]
    rw [e1, e2]
    simpa using o2)
   have hs2 := (b2 _ (Nat.le_refl _)).size;obtain ⟨A2, c2, rfl⟩ := own_form o2;have HL2 := HL.out;clear o2 o1;go_wp2
   go_roundw
   case rel => exact ⟨k + 1, by omega, HO.out, b1.trans (b2 _ (by omega)), by omega⟩
   case measure => simp only [slLen]; omega
  ·have hkz : k = zerosOf m.length := by omega
   have hne : R = 56 := by rw [hR, hkz]; exact zeros_eq _
   subst hkz;have sb := Sl.of_own o1;have ob : Off (wr.heap.size + 1) (.slice A1 L c1) := sb.off (by omega);have HL := Lib.hid (And.intro hL hlen);have hLb : L <= 1000000100 := by omega
   have hml := hl;clear hR hL hlen o1;subst hne;generalize hp1 : m ++ [128] ++ List.replicate (zerosOf m.length) (0 : UInt8) = p1 at *;have q8 : IntKind.u64.wrap (m.length : Int) = (m.length : Int) := by rw [IntKind.wrap_u64]; omega
   go_wp2_with (go_at_call 56; refine (refBig_any (8 * m.length) 8 _ (by omega) (by omega)).mono ?_)
   rintro e w3 ⟨v3, rfl, g3⟩;have s3 := gives_sl g3;obtain ⟨A3, c3, rfl, _, _⟩ := s3.form;have b3 := g3.2;have sb3 := sb.below b3;have hs3 := b3.size;have hbel3 := b1.trans (b3.mono (by omega));have hal : ∀ o, Below w3.heap.size w3 (w3.alloc o) := fun o => Below.alloc (Below.refl _ _) (Nat.le_refl _) o
   clear g3 qa qa2 b3
   go_wp2_with (go_at_call 55; refine (refJoin_any (w3.heap.size + 1) (w3.heap.size + 1) _ [p1, bigB (8 * m.length) 8] _ (PartsO.two (Nat.lt_succ_self _) (by omega) (Row.new_ rfl rfl) ((sb3.below ((hal _).mono hs3)).more (by omega)) (sb3.off (by omega)) ((s3.below (hal _)).more (by omega)) (s3.off (by omega))) (by rw [asz]; exact Nat.le_refl _) (by rw [two_flat, List.length_append, bigB_length]; have := HL.out; omega) (by simp)).mono ?_)
   rintro e w4 ⟨v4, rfl, g4⟩;rw [two_flat, <- hp1, padB_eq] at g4;have s4 := gives_sl g4;have b4 := (hal _).trans (g4.2.mono (by rw [asz]; omega));have hbel4 := hbel3.trans (b4.mono (by omega));have hs4 := b4.size;clear g4 b4 hal s3 sb3 sb ob hbel3;have hpl := padB_length m;have hpl2 := padB_len m;obtain ⟨A4, c4, rfl, _, _⟩ := s4.form;obtain ⟨pd, hpd⟩ : ∃ pd, pd = padB m := ⟨_, rfl⟩;have HP := Lib.hid hpd;rw [<- hpd] at s4 hpl hpl2 ⊢;clear hpd
   go_wp2_with (go_at_call 124; refine (start_any _).mono ?_)
   rintro e w5 ⟨rfl, b5⟩;have s5 := s4.below b5;have hbel5 := hbel4.trans (b5.mono (by omega));have hs5 := b5.size;clear s4 b5 hbel4
   go_wp2_with (refine wpList_store_any rfl 63 (.tmp 4) (.tmp 29) rfl w5.heap.size rfl (wordCells start.list) rfl 63 (wordCells (List.replicate 8 0)) (Row.new_ rfl zero8w) (info_w8.trans (size_words _ _ rfl)) rfl (cell_oneWord _) ?_)
   intro w6 hr6 bt hs6
   try simp only [asz] at bt hs6
   have s6 : Sl w6 w4.heap.size (.slice A4 pd.length c4) pd := (s5.below ((Below.alloc (Below.refl _ _) (Nat.le_refl _) _).mono hs5)).below (bt.under (by omega) (by omega));have hbel6 : Below n0 w w6 := (hbel5.alloc (by omega) _).trans (bt.under (by omega) (by omega));generalize hn6 : w5.heap.size = n6 at *;clear s5 bt hbel5 hn6;go_wp2;have h46 : w4.heap.size <= n6 := hs5;have h04 : n0 <= w4.heap.size := by omega
   generalize w4.heap.size = n4 at *;clear hs1 hs3 hs4 hs5 hs6 HL hb2 b1 hp1;go_loopw [5, 6, 7] (fun i _ _ wr => ∃ n : Nat, 64 * n <= pd.length /\ i = .int .i64 ((64 * n : Nat) : Int) /\ Row wr n6 63 (wordCells (states pd n).list) /\ Sl wr n4 (.slice A4 pd.length c4) pd /\ Below n0 w wr) (fun i _ _ _ => pd.length - (intOf i).toNat)
   case atStart => exact ⟨0, Nat.zero_le _, rfl, hr6, s6, hbel6⟩
   case round =>
    clear hr6 s6 hbel6;obtain ⟨n, hn, rfl, hr6, s6, hbel6⟩ := hrel;obtain ⟨a, ha⟩ : ∃ a, a = 64 * n := ⟨_, rfl⟩;have HA := Lib.hid ha;rw [<- ha] at hn ⊢
    by_cases hlt : a < pd.length
    ·have hfull : 64 * n + 64 <= pd.length := by omega
     have hfa : a + 64 <= pd.length := by omega
     have hXl := blockAt_length pd n hfull;have HX := Lib.hid (fun k hk => blockAt_get pd n k hfull hk);obtain ⟨X, hX⟩ : ∃ X, X = blockAt pd n := ⟨_, rfl⟩;have HXE := Lib.hid hX;obtain ⟨st, hst⟩ : ∃ st, st = states pd n := ⟨_, rfl⟩;have HST := Lib.hid hst;rw [<- hst] at hr6;rw [<- hX] at hXl;clear ha hX hst;go_wp2;have h67 : n6 < wr.heap.size := hr6.lt;have hr7 : Row (wr.alloc (.cells (Lib.byteCells (List.replicate 64 0)).toArray 147)) wr.heap.size 147 (Lib.byteCells (List.replicate 64 0)) := Row.new_ rfl rfl;replace hr6 := hr6.alloc (.cells (Lib.byteCells (List.replicate 64 0)).toArray 147);replace s6 := s6.below (Below.alloc (o := .cells (Lib.byteCells (List.replicate 64 0)).toArray 147) (Below.refl n4 wr) (by omega));replace hbel6 := hbel6.alloc (o := .cells (Lib.byteCells (List.replicate 64 0)).toArray 147) (by omega);generalize hn7 : wr.heap.size = n7 at *;have hz7 : (wr.alloc (.cells (Lib.byteCells (List.replicate 64 0)).toArray 147)).heap.size = n7 + 1 := by rw [asz, hn7]
     go_loopw [7, 36] (fun _ i wr => ∃ k : Nat, k <= 64 /\ i = .int .i64 k /\ Row wr n7 147 (Lib.byteCells (X.take k ++ List.replicate (64 - k) 0)) /\ Row wr n6 63 (wordCells st.list) /\ Sl wr n4 (.slice A4 pd.length c4) pd /\ Below n0 w wr) (fun _ i _ => 64 - (intOf i).toNat)
     case atStart => exact ⟨0, Nat.zero_le _, rfl, hr7, hr6, s6, hbel6⟩
     case round =>
      clear hr7 hr6 s6 hbel6;obtain ⟨k, hk, rfl, hr7, hr6, s6, hbel6⟩ := hrel
      by_cases hlk : k < 64
      ·obtain ⟨b, off, rfl, hbb, hcc⟩ := s6.at_ (by omega);obtain ⟨j, hj⟩ : ∃ j, j = a + k := ⟨_, rfl⟩;have hjl : j < pd.length := by omega
       have hc := hcc j hjl;have hjs : (a : Int) + (k : Int) = (j : Int) := by omega
       have hset := hr7.set_ k (.int .u8 ((X[k]'(by rw [hXl]; exact hlk)).toNat : Int));have hbs : (Lib.byteCells (X.take k ++ List.replicate (64 - k) 0)).set k (.int .u8 ((X[k]'(by rw [hXl]; exact hlk)).toNat : Int)) = Lib.byteCells (X.take (k + 1) ++ List.replicate (64 - (k + 1)) 0) := by
        rw [<- setk X k 64 hXl hlk _ rfl];simp [Lib.byteCells, List.map_set]
       rw [hbs] at hset;have hxe : X[k]'(by rw [hXl]; exact hlk) = pd[j] := by
        have h1 := HX.out k hlk;have e1 := HXE.out;subst e1;rw [h1];have e2 := HA.out;subst hj;subst e2;rfl
       rw [hxe] at hset;have hcx := hr7.cell k;rw [byteCells_get _ k (by simp; omega)] at hcx;have hf := hr7.free k;have HSET := Lib.hid hset;have k6 := Lib.hid (hr6.other ⟨n7, k, none⟩ (.int .u8 (pd[j].toNat : Int)) (by show n6 ≠ n7; omega));have ks := Lib.hid (s6.below (Below.setCell (p := ⟨n7, k, none⟩) (Below.refl n4 wr) (by show n4 <= n7; omega) (.int .u8 (pd[j].toNat : Int))));have kb := Lib.hid (hbel6.setCell (p := ⟨n7, k, none⟩) (by show n0 <= n7; omega) (.int .u8 (pd[j].toNat : Int)));clear hcc hj hset hbs hxe hr7 hr6 s6 hbel6;generalize pd[j] = y at *;go_wp2
       go_roundw
       case rel => exact ⟨k + 1, by omega, by go_num, HSET.out, k6.out, ks.out, kb.out⟩
       case measure => simp [intOf]; omega
      ·obtain rfl : k = 64 := by omega
       rw [List.take_of_length_le (by omega), Nat.sub_self, List.replicate_zero, List.append_nil] at hr7;have hi24 : (Tryz.prog.info? 147).map (·.size) = some (Lib.byteCells X).length := info_b64.trans (size_bytes 64 X hXl)
       go_wp2_with (first
        | refine wpList_load_any rfl 63 (.tmp 4) rfl n6 rfl 63 (wordCells st.list) (.array 8 22) hr6 Tryz.underlying63 rfl (info_w8.trans (size_words _ _ rfl)) ?_
        | refine wpList_load_any rfl 147 (.tmp 6) rfl n7 rfl 147 (Lib.byteCells X) (.array 64 5) hr7 Tryz.underlying147 rfl hi24 ?_
        | (go_at_call 125; refine (refCompress_any st X hXl _).mono ?_))
       rintro e w9 ⟨rfl, b9⟩;obtain ⟨cc, HC⟩ : ∃ cc, Hid (cc = comp st X) := ⟨_, Lib.hid rfl⟩;rw [<- HC.out];have hr69 := hr6.below b9 hr6.lt;have s69 := s6.below (b9.mono (Nat.le_of_lt (Nat.lt_of_le_of_lt h46 hr6.lt)));have hbel9 := hbel6.trans (b9.mono (Nat.le_of_lt (Nat.lt_of_le_of_lt (Nat.le_trans h04 h46) hr6.lt)));clear hr6 s6 hbel6 b9 hr7
       go_wp2_with (refine wpList_store_any rfl 63 (.tmp 4) (.tmp 50) rfl n6 rfl (wordCells cc.list) rfl 63 _ hr69 (info_w8.trans (size_words _ _ rfl)) rfl (cell_oneWord _) ?_)
       intro w10 hr10 b10 _;have s10 := s69.below (b10.under (Nat.le_trans h46 (Nat.le_of_lt hr69.lt)) h46);have hbel10 := hbel9.trans (b10.under (Nat.le_trans (Nat.le_trans h04 h46) (Nat.le_of_lt hr69.lt)) (Nat.le_trans h04 h46))
       have HR : Hid (Row w10 n6 63 (wordCells (states pd (n + 1)).list)) := Lib.hid (by
        have e : states pd (n + 1) = cc := by rw [HC.out, HST.out, HXE.out]; rfl
        rw [e]; exact hr10)
       have hA := HA.out;clear hr10 b10 hr69 s69 hbel9;go_wp2
       go_roundw
       case rel => exact ⟨n + 1, by omega, by rw [show 64 * (n + 1) = a + 64 by omega]; go_num, HR.out, s10, hbel10⟩
       case measure => simp [intOf]; omega
    ·have hae : a = pd.length := by omega
     have HN : Hid (outB (states pd n) = sha m) := Lib.hid (by
      rw [sha, <- HP.out]
      congr 2
      have := HA.out
      omega)
     obtain ⟨st, hst⟩ : ∃ st, st = states pd n := ⟨_, rfl⟩;rw [<- hst] at HN hr6;clear hst hpl hpl2 hn HA ha s6 hae;have h6lt := hr6.lt;have hown0 : (wr.alloc (.cells #[] 5)).ownsRow n0 5 1 (.slice (some ⟨wr.heap.size, 0, none⟩) 0 0) 0 [] := World.ownsRow_made wr #[] 0 (by omega) (Nat.zero_le _) rfl;have h46 : n0 <= n6 := by omega
     replace hr6 := hr6.alloc (.cells #[] 5);replace hbel6 := hbel6.alloc (o := .cells #[] 5) (by omega);go_wp2;go_loopw [8, 9, 52] (fun o _ i wr => ∃ k : Nat, k <= 8 /\ i = .int .i64 k /\ wr.ownsRow n0 5 1 o ((outB st).take (4 * k)).length (Lib.byteCells ((outB st).take (4 * k))) /\ Row wr n6 63 (wordCells st.list) /\ Below n0 w wr) (fun _ _ i _ => 8 - (intOf i).toNat)
     case atStart => exact ⟨0, Nat.zero_le _, rfl, hown0, hr6, hbel6⟩
     case round =>
      clear hr6 hbel6 hown0 h6lt;obtain ⟨k, hk, rfl, hown0, hr6, hbel6⟩ := hrel
      by_cases hlk : k < 8
      ·have hc := hr6.cell k;rw [wordCells_get _ k (by rw [St.list_length]; exact hlk)] at hc;have HO := Lib.hid (outB_snoc st k (by rw [St.list_length]; exact hlk));obtain ⟨x, hx⟩ : ∃ x, x = st.list[k]'(by rw [St.list_length]; exact hlk) := ⟨_, rfl⟩;rw [<- hx] at hc HO;have hxl := x.toNat_lt;have so := Sl.of_own hown0;obtain ⟨Ao, co, rfl⟩ := own_form hown0;have hol : ((outB st).take (4 * k)).length <= 32 := by rw [List.length_take, outB_length]; omega
       have h6 := hr6.lt;clear hx hown0;generalize (outB st).take (4 * k) = ob at *
       go_wp2_with (go_at_call 56; refine (refBig_any x.toNat 4 _ (by omega) (by omega)).mono ?_)
       rintro e w3 ⟨v3, rfl, g3⟩;have s3 := gives_sl g3;obtain ⟨A3, c3, rfl, _, _⟩ := s3.form;have b3 := g3.2;have so3 := so.below b3;have hs3 := b3.size;have hr63 := hr6.below b3 h6;have hbel3 := hbel6.trans (b3.mono (by omega));have hal : ∀ o, Below w3.heap.size w3 (w3.alloc o) := fun o => Below.alloc (Below.refl _ _) (Nat.le_refl _) o
       clear g3 b3 hr6 hbel6 so
       go_wp2_with (go_at_call 55; refine (refJoin_any (w3.heap.size + 1) (w3.heap.size + 1) _ [ob, bigB x.toNat 4] _ (PartsO.two (Nat.lt_succ_self _) (by omega) (Row.new_ rfl rfl) ((so3.below ((hal _).mono hs3)).more (by omega)) (so3.off (by omega)) ((s3.below (hal _)).more (by omega)) (s3.off (by omega))) (by rw [asz]; exact Nat.le_refl _) (by rw [two_flat, List.length_append, bigB_length]; omega) (by simp)).mono ?_)
       rintro e w4 ⟨v4, rfl, g4⟩;rw [two_flat, <- HO.out] at g4;have o4 := Lib.hid (own_mono (base := n0) g4.1 (by rw [asz]; omega));have b4 := (hal _).trans (g4.2.mono (by rw [asz]; omega));have hr64 := hr63.below b4 (by omega);have hbel4 := hbel3.trans (b4.mono (by omega));clear g4 b4 hal s3 so3 hr63 hbel3 HO;go_wp2
       go_roundw
       case rel => exact ⟨k + 1, by omega, by go_num, o4.out, hr64, hbel4⟩
       case measure => simp [intOf]; omega
      ·obtain rfl : k = 8 := by omega
       rw [List.take_of_length_le (by rw [outB_length]; omega), HN.out] at hown0;have HO := Lib.hid hown0;clear hown0;go_wp2;go_ret;rw [<- hn0] at HO hbel6;exact ⟨_, rfl, HO.out, hbel6⟩
def PutIs (w : World) (er : Int) (bs : List UInt8) (e : Ending) (w' : World) : Prop := ∃ v, e = .returned (.tuple #[v, .int .i64 er]) /\ Gives w bs v w'
def pairE (us bs : List UInt8) : Int := if us.length = bs.length then 0 else 1
def xored (us bs : List UInt8) : List UInt8 := if us.length = bs.length then List.zipWith (· ^^^ ·) us bs else []
theorem gives_blk {w w' : World} {bs : List UInt8} {k : Nat} (hk : bs.length = k) (hm : k <= 1099511627776) (h : Blk w' w.heap.size bs) (hb : Below w.heap.size w w') : Gives w bs (.slice (some ⟨w.heap.size, 0, none⟩) k k) w' := by
 subst hk;exact ⟨h.own (Nat.le_refl _) (by unfold maxLen; omega), hb⟩
set_option maxHeartbeats 1000000 in
theorem xor_any (B B' : Nat) (va vb : Value) (us bs : List UInt8) (w : World) (ha : Sl w B va us) (hb : Sl w B' vb bs) (hB : B <= w.heap.size) (hB' : B' <= w.heap.size) (hl : us.length <= 1099511627776) (_hl2 : bs.length <= 1099511627776) :
  Calls Tryz.prog 112 #[va, vb] w (PutIs w (pairE us bs) (xored us bs)) := by
 obtain ⟨A, c, rfl, _, _⟩ := ha.form;obtain ⟨A', c', rfl, _, _⟩ := hb.form;unfold pairE xored
 by_cases hlen : us.length = bs.length
 ·rw [if_pos hlen, if_pos hlen];have ht : ((us.length : Int) != (bs.length : Int)) = false := by rw [bne_eq_false_iff_eq]; omega
  have hl3 : bs.length <= us.length := by omega
  have hl4 : us.length <= bs.length := by omega
  have hmk := make_run us.length (by omega);obtain ⟨zs, hzs⟩ : ∃ zs, zs = List.zipWith (· ^^^ ·) us bs := ⟨_, rfl⟩;have HZ := Lib.hid hzs;have hzl : zs.length = us.length := by rw [hzs]; simp; omega
  have HZL := Lib.hid hzl;rw [<- hzs];clear hlen hzs hzl;go_enter Tryz.func112, Tryz.ntmps112;go_wp2;go_loopw [7, 8, 19] (fun _ _ i wr => ∃ k : Nat, k <= us.length /\ i = .int .i64 k /\ Blk wr w.heap.size (zs.take k ++ List.replicate (us.length - k) 0) /\ Below w.heap.size w wr) (fun _ _ i _ => us.length - (intOf i).toNat)
  case atStart => exact ⟨0, Nat.zero_le _, rfl, by simpa using Blk.new w _, (Below.refl _ _).alloc (Nat.le_refl _) _⟩
  case round =>
   obtain ⟨k, hk, rfl, hblk, hbel⟩ := hrel
   by_cases hlt : k < us.length
   ·have har := ha.below (hbel.mono hB);have hbr := hb.below (hbel.mono hB');obtain ⟨b, off, rfl, hbb, hc⟩ := har.at_ (by omega);obtain ⟨b', off', rfl, hbb', hc'⟩ := hbr.at_ (by omega);have hk2 : k < bs.length := by omega
    have hc1 := hc k hlt;have hc2 := hc' k hk2;have hcx := hblk.cell k (by have := HZL.out; simp; omega);have hf := hblk.free k;have hs := hblk.set_ k (zs[k]'(by have := HZL.out; omega));rw [set_step zs k us.length HZL.out hlt] at hs;have hz : zs[k]'(by have := HZL.out; omega) = us[k] ^^^ bs[k] := by
     have h := HZ.out;subst h;simp
    rw [hz, <- u8_xor] at hs;have HS := Lib.hid hs;clear hc hc' hs har hbr hz;go_wp2
    go_roundw
    case rel => exact ⟨k + 1, by omega, by go_num, HS.out, hbel.setCell (Nat.le_refl _) _⟩
    case measure => simp [intOf]; omega
   ·obtain rfl : k = us.length := by omega
    have HO : Hid (Blk wr w.heap.size zs) := by
     rw [List.take_of_length_le (by have := HZL.out; omega), Nat.sub_self] at hblk;exact Lib.hid (by simpa using hblk)
    clear hblk;go_wp2;go_ret2;exact ⟨_, rfl, gives_blk HZL.out hl HO.out hbel⟩
 ·rw [if_neg hlen, if_neg hlen];have ht : ((us.length : Int) != (bs.length : Int)) = true := by rw [bne_iff_ne]; omega
  clear hlen;go_enter Tryz.func112, Tryz.ntmps112;go_wp2;go_ret2;exact ⟨_, rfl, gives_nil w⟩
theorem info_bool : (Tryz.prog.info? 4).map (fun i => (i.zero, i.size, i.bytes)) = some (some (.bool false), 1, 1) := by kernel_rfl
def boolCells (l : List Bool) : List Value := l.map Value.bool
theorem boolCells_append (a b : List Bool) : boolCells (a ++ b) = boolCells a ++ boolCells b := by simp [boolCells]
def bitAt (b : UInt8) (i : Nat) : Bool := decide (b.toNat / 2 ^ i % 2 = 1)
def bits8 (b : UInt8) : List Bool := (List.range 8).map (bitAt b)
def bitsL (bs : List UInt8) : List Bool := bs.flatMap bits8
theorem bits8_length (b : UInt8) : (bits8 b).length = 8 := by simp [bits8]
theorem bitsL_snoc (bs : List UInt8) (b : UInt8) : bitsL (bs ++ [b]) = bitsL bs ++ bits8 b := by simp [bitsL]
theorem bitsL_length (bs : List UInt8) : (bitsL bs).length = 8 * bs.length := by
 induction bs with
 | nil => rfl
 | cons b r ih =>
  simp only [bitsL, List.flatMap_cons, List.length_append, List.length_cons] at ih ⊢;rw [bits8_length, ih]; omega
theorem bits8_take (b : UInt8) (i : Nat) (h : i < 8) : (bits8 b).take (i + 1) = (bits8 b).take i ++ [bitAt b i] := by
 rw [take_snoc _ _ (by rw [bits8_length]; exact h)];simp [bits8]
theorem rem_bit (b : UInt8) (i : Nat) : (((b.toNat / 2 ^ i : Nat) : Int) % 2 == 1) = bitAt b i := by
 unfold bitAt
 by_cases h : b.toNat / 2 ^ i % 2 = 1
 ·rw [decide_eq_true h, beq_iff_eq]; omega
 ·rw [decide_eq_false h, beq_eq_false_iff_ne]; omega
theorem half_step (n i : Nat) : (((n / 2 ^ i : Nat) : Int) / 2) = ((n / 2 ^ (i + 1) : Nat) : Int) := by
 rw [Nat.pow_succ, <- Nat.div_div_eq_div_mul]; omega
def OwnB (w : World) (l : List Bool) (e : Ending) (w' : World) : Prop := ∃ v, e = .returned v /\ w'.ownsRow w.heap.size 4 1 v l.length (boolCells l) /\ Below w.heap.size w w'
set_option maxHeartbeats 2000000 in
theorem refBits_any (B : Nat) (v : Value) (bs : List UInt8) (w : World) (hs : Sl w B v bs) (hB : B <= w.heap.size) (hl : bs.length <= 1099511627776) :
  Calls Tryz.prog 115 #[v] w (OwnB w (bitsL bs)) := by
 obtain ⟨i0, hi, hz0, hz1, hz2⟩ := info_parts info_bool;obtain ⟨A, c, rfl, _, _⟩ := hs.form;go_enter Tryz.func115, Tryz.ntmps115;go_wp2;go_loopw [3, 6, 10] (fun o _ i wr => ∃ k : Nat, k <= bs.length /\ i = .int .i64 k /\ wr.ownsRow w.heap.size 4 1 o (8 * k) (boolCells (bitsL (bs.take k))) /\ Below w.heap.size w wr) (fun _ _ i _ => bs.length - (intOf i).toNat)
 case atStart =>
  exact ⟨0, Nat.zero_le _, rfl, World.ownsRow_made w #[] 0 (Nat.le_refl _) (Nat.zero_le _) rfl, (Below.refl _ _).alloc (Nat.le_refl _) _⟩
 case round =>
  obtain ⟨k, hk, rfl, hown, hbel⟩ := hrel;have hsr := hs.below (hbel.mono hB)
  by_cases hlt : k < bs.length
  ·obtain ⟨b, off, rfl, hb, hc⟩ := hsr.at_ (by omega);have hc1 := hc k hlt;have hb8 := bs[k].toNat_lt;obtain ⟨x, hx⟩ : ∃ x, x = bs[k] := ⟨_, rfl⟩;rw [<- hx] at hc1 hb8;have HX := Lib.hid hx;obtain ⟨wo, hwo⟩ : ∃ wo : World, wo = wr := ⟨_, rfl⟩;subst hwo;clear hc hx hsr;go_wp2;go_loopw [3, 6, 16] (fun o n i wr => ∃ j : Nat, j <= 8 /\ i = .int .i64 j /\ n = .int .i64 ((x.toNat / 2 ^ j : Nat) : Int) /\ wr.ownsRow w.heap.size 4 1 o (8 * k + j) (boolCells (bitsL (bs.take k) ++ (bits8 x).take j)) /\ Below w.heap.size w wr) (fun _ _ i _ => 8 - (intOf i).toNat)
   case atStart =>
    exact ⟨0, Nat.zero_le _, rfl, by simp, by simpa using hown, hbel⟩
   case round =>
    obtain ⟨j, hj, rfl, rfl, hown1, hbel1⟩ := hrel;have hsz1 := hbel1.size
    by_cases hjl : j < 8
    ·have HS := Lib.hid (rem_bit x j);have HH := Lib.hid (half_step x.toNat j);have hq : x.toNat / 2 ^ j <= x.toNat := Nat.div_le_self _ _;have HB : Hid (boolCells (bitsL (bs.take k) ++ (bits8 x).take (j + 1)) = boolCells (bitsL (bs.take k) ++ (bits8 x).take j) ++ [.bool (bitAt x j)]) := by
      apply Lib.hid;rw [bits8_take x j hjl, <- List.append_assoc, boolCells_append _ [bitAt x j]];rfl
     generalize boolCells (bitsL (bs.take k) ++ (bits8 x).take j) = xs at hown1 HB;obtain ⟨q, hqq⟩ : ∃ q, q = x.toNat / 2 ^ j := ⟨_, rfl⟩;rw [<- hqq] at HS HH hq ⊢;clear hqq
     go_wp2_with (at_builtin; refine wp_append1 _ 137 4 i0 (.bool false) Tryz.underlying137 hi hz0 hz1 hz2 rfl rfl _ _ rfl hown1 rfl rfl rfl (by omega) hsz1 ?_)
     intro v' w1 hown2 _ hb1;rw [HS.out, <- HB.out] at hown2;have HO := Lib.hid hown2;clear hown2;go_wp2
     go_roundw
     case rel => exact ⟨j + 1, by omega, by go_num, by rw [<- HH.out], HO.out, hbel1.trans (hb1 _ (Nat.le_refl _))⟩
     case measure => simp [intOf]; omega
    ·obtain rfl : j = 8 := by omega
     have HO : ∀ v, wr.ownsRow w.heap.size 4 1 v (8 * k + 8) (boolCells (bitsL (bs.take k) ++ (bits8 x).take 8)) -> Hid (wr.ownsRow w.heap.size 4 1 v (8 * (k + 1)) (boolCells (bitsL (bs.take (k + 1))))) := by
      intro v hv;rw [List.take_of_length_le (show (bits8 x).length <= 8 by rw [bits8_length]; omega)] at hv;rw [take_snoc bs k hlt, bitsL_snoc, <- HX.out];exact Lib.hid (own_len hv (by omega))
     have HO2 := HO _ hown1;clear HO hown1;go_wp2
     go_roundw
     case rel => exact ⟨k + 1, by omega, by go_num, HO2.out, hbel1⟩
     case measure => simp [intOf]; omega
  ·obtain rfl : k = bs.length := by omega
   rw [List.take_of_length_le (Nat.le_refl _)] at hown;have HO := Lib.hid (own_len hown (bitsL_length bs).symm);clear hown hsr hs;go_wp2;go_ret;exact ⟨_, rfl, HO.out, hbel⟩
def Slb (w : World) (B : Nat) (v : Value) (l : List Bool) : Prop :=
 ∃ A c, v = .slice A l.length c /\ l.length <= c /\ c <= maxLen /\ (0 < l.length -> ∃ b off, A = some ⟨b, off, none⟩ /\ b < B /\ ∀ k (h : k < l.length), w.cell? ⟨b, off + k, none⟩ = some (.bool l[k]))
section
variable {w w' : World} {B B' : Nat} {v : Value} {A : Option Addr} {n c : Nat} {l : List Bool}
theorem Slb.form (h : Slb w B v l) : ∃ A c, v = .slice A l.length c /\ l.length <= c /\ c <= maxLen := by
 obtain ⟨A, c, h1, h2, h3, _⟩ := h;exact ⟨A, c, h1, h2, h3⟩
theorem Slb.at_ (h : Slb w B (.slice A n c) l) (hn : 0 < l.length) : ∃ b off, A = some ⟨b, off, none⟩ /\ b < B /\ ∀ k (h : k < l.length), w.cell? ⟨b, off + k, none⟩ = some (.bool l[k]) := by
 obtain ⟨A', c', hv, _, _, hc⟩ := h;cases hv;exact hc hn
theorem Slb.keep (h : Slb w B v l) (hk : ∀ p : Addr, p.block < B -> w'.cell? p = w.cell? p) : Slb w' B v l := by
 obtain ⟨A', c', hv, h1, h2, hc⟩ := h;refine ⟨A', c', hv, h1, h2, fun hn => ?_⟩;obtain ⟨b, off, hA, hb, hr⟩ := hc hn;exact ⟨b, off, hA, hb, fun k hk' => (hk _ hb).trans (hr k hk')⟩
theorem Slb.more (h : Slb w B v l) (hB : B <= B') : Slb w B' v l := by
 obtain ⟨A', c', hv, h1, h2, hc⟩ := h;refine ⟨A', c', hv, h1, h2, fun hn => ?_⟩;obtain ⟨b, off, hA, hb, hr⟩ := hc hn;exact ⟨b, off, hA, by omega, hr⟩
theorem Slb.below (h : Slb w B v l) (hb : Below B w w') : Slb w' B v l := h.keep fun _ hp => hb.cell hp
theorem Slb.step (h : Slb w w.heap.size v l) (hb : Below w.heap.size w w') : Slb w' w'.heap.size v l := (h.below hb).more hb.size
theorem Slb.of_own {base e : Nat} (h : w.ownsRow base e 1 v l.length (boolCells l)) : Slb w w.heap.size v l := by
 rcases h.2 with ⟨rfl, hn⟩ | ⟨g, cap, cur, rfl, hb, hg, hnc, hcm, hsz, hcur⟩
 ·exact ⟨none, 0, by rw [hn], by omega, by unfold maxLen; omega, fun h => absurd h (by omega)⟩
 ·refine ⟨some ⟨g, 0, none⟩, cap, rfl, hnc, hcm, fun hn => ⟨g, 0, rfl, (Array.getElem?_eq_some_iff.1 hg).1, fun k hk => ?_⟩⟩;have := h.cellAt k (by omega);rw [Nat.zero_add, this];simp [boolCells, List.getElem?_eq_getElem hk]
end
def valB : List Bool -> Nat
 | [] => 0
 | b :: r => b.toNat + 2 * valB r
theorem valB_snoc (l : List Bool) (b : Bool) : valB (l ++ [b]) = valB l + 2 ^ l.length * b.toNat := by
 induction l with
 | nil => simp [valB]
 | cons x r ih =>
  simp only [List.cons_append, valB, ih, List.length_cons, Nat.pow_succ];rw [Nat.mul_add, <- Nat.mul_assoc, Nat.mul_comm 2 (2 ^ r.length)];omega
theorem valB_lt (l : List Bool) : valB l < 2 ^ l.length := by
 induction l with
 | nil => simp [valB]
 | cons x r ih =>
  have : x.toNat <= 1 := by cases x <;> simp
  simp only [valB, List.length_cons, Nat.pow_succ];omega
theorem pow2_le8 {k : Nat} (h : k <= 8) : 2 ^ k <= 256 := by
 calc 2 ^ k <= 2 ^ 8 := Nat.pow_le_pow_right (by decide) h
  _ = 256 := by decide
def chunk (l : List Bool) (j : Nat) : List Bool := (l.drop (8 * j)).take 8
def fromN (l : List Bool) (n : Nat) : List UInt8 := (List.range n).map fun j => UInt8.ofNat (valB (chunk l j))
def fromBits (l : List Bool) : List UInt8 := fromN l ((l.length + 7) / 8)
theorem fromN_length (l : List Bool) (n : Nat) : (fromN l n).length = n := by simp [fromN]
theorem fromN_get (l : List Bool) (n j : Nat) (h : j < (fromN l n).length) : (fromN l n)[j] = UInt8.ofNat (valB (chunk l j)) := by simp [fromN]
theorem fromBits_length (l : List Bool) : (fromBits l).length = (l.length + 7) / 8 := fromN_length _ _
theorem fromBits_snoc (l : List Bool) (j : Nat) (h : j < (l.length + 7) / 8) : (fromBits l).take (j + 1) = (fromBits l).take j ++ [UInt8.ofNat (valB (chunk l j))] := by
 rw [take_snoc _ _ (by rw [fromBits_length]; exact h)]
 congr 2
 exact fromN_get _ _ _ _
def pw (k : Nat) : Nat := 2 ^ k
theorem drop_take (l : List Bool) (i k : Nat) (h : i <= k) (hk : k < l.length) : (l.drop i).take (k + 1 - i) = (l.drop i).take (k - i) ++ [l[k]] := by
 have e : k + 1 - i = (k - i) + 1 := by omega
 rw [e, take_snoc _ _ (by rw [List.length_drop]; omega)]
 congr 2
 rw [List.getElem_drop]
 congr 1
 omega
set_option maxHeartbeats 4000000 in
theorem refFromBits_any (B : Nat) (v : Value) (l : List Bool) (w : World) (hs : Slb w B v l) (hB : B <= w.heap.size) (hl : l.length <= 1099511627776) :
  Calls Tryz.prog 116 #[v] w (OwnIs w (fromBits l)) := by
 obtain ⟨i0, hi, hz0, hz1, hz2⟩ := info_parts info_u8;obtain ⟨A, c, rfl, _, _⟩ := hs.form;obtain ⟨n, hn⟩ : ∃ n, n = (l.length + 7) / 8 := ⟨_, rfl⟩;have HN := Lib.hid hn;have hn1 : l.length <= 8 * n := by omega
 have hn2 : n <= 137438953473 := by omega
 have hn3 : 8 * n <= l.length + 7 := by omega
 clear hn;go_enter Tryz.func116, Tryz.ntmps116;go_wp2;go_loopw [3, 4, 5, 6, 7] (fun o i _ _ _ wr => ∃ j : Nat, j <= n /\ i = .int .i64 (8 * (j : Int)) /\ wr.ownsRow w.heap.size 5 1 o j (Lib.byteCells ((fromBits l).take j)) /\ Below w.heap.size w wr) (fun _ i _ _ _ _ => 8 * n + 8 - (intOf i).toNat)
 case atStart =>
  exact ⟨0, Nat.zero_le _, rfl, World.ownsRow_made w #[] 0 (Nat.le_refl _) (Nat.zero_le _) rfl, (Below.refl _ _).alloc (Nat.le_refl _) _⟩
 case round =>
  obtain ⟨j, hj, rfl, hown, hbel⟩ := hrel;have hsz := hbel.size
  by_cases hlt : 8 * j < l.length
  ·have hsr := hs.below (hbel.mono hB);obtain ⟨b, off, rfl, hbb, hc⟩ := hsr.at_ (by omega);have HC := Lib.hid hc;obtain ⟨wo, hwo⟩ : ∃ wo : World, wo = wr := ⟨_, rfl⟩;subst hwo;clear hc hsr;have HX : Hid (Lib.byteCells ((fromBits l).take (j + 1)) = Lib.byteCells ((fromBits l).take j) ++ [.int .u8 ((UInt8.ofNat (valB (chunk l j))).toNat : Int)]) := by
    apply Lib.hid;rw [fromBits_snoc l j (by omega), Lib.byteCells_append];rfl
   generalize Lib.byteCells ((fromBits l).take j) = xs at hown HX;go_wp2
   go_loop [5, 6, 7] (fun nn ww kk => ∃ k : Nat, 8 * j <= k /\ k <= 8 * j + 8 /\ k <= l.length /\ kk = .int .i64 k /\ nn = .int .i64 ((valB ((l.drop (8 * j)).take (k - 8 * j)) : Nat) : Int) /\ ww = .int .i64 ((pw (k - 8 * j) : Nat) : Int)) (fun _ _ kk => l.length - (intOf kk).toNat)
   case atStart => exact ⟨8 * j, by omega, by omega, by omega, by simp, by simp [valB], by simp [pw]⟩
   case round =>
    obtain ⟨k, hk1, hk2, hk3, rfl, rfl, rfl⟩ := hrel;have hvl := valB_lt ((l.drop (8 * j)).take (k - 8 * j));have hvll : ((l.drop (8 * j)).take (k - 8 * j)).length = k - 8 * j := by rw [List.length_take, List.length_drop]; omega
    rw [hvll] at hvl;have hp8 : pw (k - 8 * j) <= 256 := pow2_le8 (show k - 8 * j <= 8 by omega);have hvl : valB ((l.drop (8 * j)).take (k - 8 * j)) < pw (k - 8 * j) := hvl
    by_cases hin : k < 8 * j + 8 /\ k < l.length
    ·obtain ⟨hin1, hin2⟩ := hin;have hck := HC.out k hin2;have hdt := drop_take l (8 * j) k hk1 hin2;have HV : Hid (valB ((l.drop (8 * j)).take (k + 1 - 8 * j)) = valB ((l.drop (8 * j)).take (k - 8 * j)) + pw (k - 8 * j) * l[k].toNat) := by
      rw [hdt, valB_snoc, hvll];exact Lib.hid rfl
     have HP : Hid (pw (k + 1 - 8 * j) = pw (k - 8 * j) * 2) := by
      rw [show k + 1 - 8 * j = (k - 8 * j) + 1 by omega];exact Lib.hid (Nat.pow_succ ..)
     clear hdt hvll;generalize valB ((l.drop (8 * j)).take (k - 8 * j)) = a at *;generalize pw (k - 8 * j) = p at *;cases hbit : l[k]
     ·rw [hbit] at hck HV;clear hbit;go_wp2;exact ⟨⟨_, _, _, ⟨k + 1, by omega, by omega, by omega, rfl, rfl, rfl⟩, by rw [HV.out]; simp, by rw [HP.out]; go_num, by go_num⟩, by simp [intOf]; omega⟩
     ·rw [hbit] at hck HV;clear hbit;go_wp2;exact ⟨⟨_, _, _, ⟨k + 1, by omega, by omega, by omega, rfl, rfl, rfl⟩, by rw [HV.out]; simp, by rw [HP.out]; go_num, by go_num⟩, by simp [intOf]; omega⟩
    ·have hv8 : valB ((l.drop (8 * j)).take (k - 8 * j)) = valB (chunk l j) := by
      unfold chunk
      by_cases h8 : k = 8 * j + 8
      ·rw [show k - 8 * j = 8 by omega]
      ·rw [List.take_of_length_le (by rw [List.length_drop]; omega), List.take_of_length_le (by rw [List.length_drop]; omega)]
     rw [hv8] at hvl;rw [hv8];have HCV : Hid ((valB (chunk l j) : Int) = ((UInt8.ofNat (valB (chunk l j))).toNat : Int)) := by
      apply Lib.hid;have : (UInt8.ofNat (valB (chunk l j))).toNat = valB (chunk l j) := by simp; omega
      rw [this]
     clear hv8 hvll;generalize valB (chunk l j) = q at *;have hq256 : q < 256 := by omega
     by_cases hc1 : k < 8 * j + 8
     ·have hc2 : l.length <= k := by omega
      clear hin
      go_wp2_with (at_builtin; refine wp_append1 _ 23 5 i0 (.int .u8 0) Tryz.underlying23 hi hz0 hz1 hz2 rfl rfl _ _ rfl hown rfl rfl rfl (by omega) hsz ?_)
      intro v' w1 hown1 _ hb1;rw [HCV.out, <- HX.out] at hown1;have HO := Lib.hid hown1;clear hown1;go_wp2
      go_roundw
      case rel => exact ⟨j + 1, by omega, by go_num, HO.out, hbel.trans (hb1 _ (Nat.le_refl _))⟩
      case measure => simp [intOf]; omega
     ·have hc3 : 8 * j + 8 <= k := by omega
      clear hin hc1
      go_wp2_with (at_builtin; refine wp_append1 _ 23 5 i0 (.int .u8 0) Tryz.underlying23 hi hz0 hz1 hz2 rfl rfl _ _ rfl hown rfl rfl rfl (by omega) hsz ?_)
      intro v' w1 hown1 _ hb1;rw [HCV.out, <- HX.out] at hown1;have HO := Lib.hid hown1;clear hown1;go_wp2
      go_roundw
      case rel => exact ⟨j + 1, by omega, by go_num, HO.out, hbel.trans (hb1 _ (Nat.le_refl _))⟩
      case measure => simp [intOf]; omega
  ·obtain rfl : j = n := by omega
   rw [List.take_of_length_le (show (fromBits l).length <= j by rw [fromBits_length, <- HN.out]; exact Nat.le_refl _)] at hown;have HO := Lib.hid (own_len hown (show j = (fromBits l).length by rw [fromBits_length, <- HN.out]));clear hown;go_wp2;go_ret;exact ⟨_, rfl, HO.out, hbel⟩
theorem bitAt_test (b : UInt8) (i : Nat) : bitAt b i = b.toNat.testBit i := by
 unfold bitAt;rw [Nat.testBit_eq_decide_div_mod_eq]
theorem bits8_xor (a b : UInt8) : List.zipWith (fun p q => p != q) (bits8 a) (bits8 b) = bits8 (a ^^^ b) := by
 unfold bits8;apply List.ext_getElem (by simp);intro i h1 h2;simp only [List.getElem_zipWith, List.getElem_map, List.getElem_range, bitAt_test, UInt8.toNat_xor, Nat.testBit_xor]
theorem bitsL_xor (us bs : List UInt8) (h : us.length = bs.length) : List.zipWith (fun p q => p != q) (bitsL us) (bitsL bs) = bitsL (List.zipWith (· ^^^ ·) us bs) := by
 induction us generalizing bs with
 | nil => simp [bitsL]
 | cons a r ih =>
  cases bs with
  | nil => simp at h
  | cons b s =>
   have e1 : bitsL (a :: r) = bits8 a ++ bitsL r := by simp [bitsL]
   have e2 : bitsL (b :: s) = bits8 b ++ bitsL s := by simp [bitsL]
   have e3 : bitsL ((a ^^^ b) :: List.zipWith (· ^^^ ·) r s) = bits8 (a ^^^ b) ++ bitsL (List.zipWith (· ^^^ ·) r s) := by simp [bitsL]
   rw [e1, e2, List.zipWith_cons_cons, e3, List.zipWith_append (by rw [bits8_length, bits8_length]), bits8_xor, ih s (by simpa using h)]
theorem valB_bits8 (b : UInt8) : UInt8.ofNat (valB (bits8 b)) = b := by
 have key : ∀ n : Fin 256, UInt8.ofNat (valB (bits8 (UInt8.ofNat n.val))) = UInt8.ofNat n.val := by decide +kernel
 have e : UInt8.ofNat b.toNat = b := by simp
 have := key ⟨b.toNat, b.toNat_lt⟩;simp only [e] at this;exact this
theorem chunk_bitsL (bs : List UInt8) (j : Nat) (h : j < bs.length) : chunk (bitsL bs) j = bits8 bs[j] := by
 induction bs generalizing j with
 | nil => simp at h
 | cons b r ih =>
  have e1 : bitsL (b :: r) = bits8 b ++ bitsL r := by simp [bitsL]
  rw [e1];cases j with
  | zero =>
   unfold chunk;rw [Nat.mul_zero, List.drop_zero, List.take_append_of_le_length (by rw [bits8_length]; omega), List.take_of_length_le (by rw [bits8_length]; omega)];rfl
  | succ j =>
   have := ih j (by simpa using h);unfold chunk at this ⊢;rw [show 8 * (j + 1) = (bits8 b).length + 8 * j by rw [bits8_length]; omega, <- List.drop_drop, List.drop_left, this];rfl
theorem fromBits_bitsL (bs : List UInt8) : fromBits (bitsL bs) = bs := by
 apply List.ext_getElem (by rw [fromBits_length, bitsL_length]; omega);intro j h1 h2;have h := fromN_get (bitsL bs) (((bitsL bs).length + 7) / 8) j h1;rw [chunk_bitsL bs j h2, valB_bits8] at h;exact h
theorem own_base {w : World} {base base' : Nat} {e : TypeId} {v : Value} {n : Nat} {xs : List Value} (h : w.ownsRow base e 1 v n xs) (hb : base' <= base) : w.ownsRow base' e 1 v n xs := by
 refine ⟨h.1, ?_⟩
 rcases h.2 with hn | ⟨g, cap, cur, hv, hg, rest⟩
 ·exact .inl hn
 ·exact .inr ⟨g, cap, cur, hv, by omega, rest⟩
set_option maxHeartbeats 2000000 in
theorem refXor_any (B B' : Nat) (va vb : Value) (us bs : List UInt8) (w : World) (ha : Sl w B va us) (hb : Sl w B' vb bs) (hB : B <= w.heap.size) (hB' : B' <= w.heap.size) (hl : us.length <= 1048576) (hlen : us.length = bs.length) :
  Calls Tryz.prog 88 #[va, vb] w (OwnIs w (List.zipWith (· ^^^ ·) us bs)) := by
 obtain ⟨i0, hi, hz0, hz1, hz2⟩ := info_parts info_bool;have hl2 : bs.length <= 1048576 := by omega
 have hx := bitsL_xor us bs hlen;have HX := Lib.hid hx;have hlb : (bitsL us).length = (bitsL bs).length := by rw [bitsL_length, bitsL_length, hlen]
 have hlm : (bitsL us).length <= 8388608 := by rw [bitsL_length]; omega
 have HF := Lib.hid (fromBits_bitsL (List.zipWith (· ^^^ ·) us bs));clear hx hlen;generalize List.zipWith (· ^^^ ·) us bs = zs at *;go_enter Tryz.func88, Tryz.ntmps88
 go_wp2_with fail
 refine (refBits_any _ _ us _ ha hB (by omega)).mono ?_;rintro e w1 ⟨v1, rfl, o1, b1⟩;have x1 := Slb.of_own o1;have hb1 := hb.below (b1.mono hB');clear o1
 go_wp2_with fail
 refine (refBits_any _ _ bs _ hb1 (Nat.le_trans hB' b1.size) (by omega)).mono ?_;rintro e w2 ⟨v2, rfl, o2, b2⟩;have x2 := x1.step b2;have y2 := Slb.of_own o2;have b12 := Below.chain b1 b2;clear o2 x1 hb1;have HLB := Lib.hid hlb;have hlb1 : (bitsL us).length <= (bitsL bs).length := by omega
 clear hlb;generalize bitsL us = p at *;generalize bitsL bs = q at *;obtain ⟨A1, c1, rfl, _, _⟩ := x2.form;obtain ⟨A2, c2, rfl, _, _⟩ := y2.form;obtain ⟨zb, hzb⟩ : ∃ zb, zb = List.zipWith (fun p q => p != q) p q := ⟨_, rfl⟩;have HZ := Lib.hid hzb;rw [<- hzb] at HX;have hzl : zb.length = p.length := by rw [hzb]; have := HLB.out; simp; omega
 have HZL := Lib.hid hzl;clear hzb hzl;go_wp2;go_loopw [7, 8, 16] (fun o _ i wr => ∃ k : Nat, k <= p.length /\ i = .int .i64 k /\ wr.ownsRow w2.heap.size 4 1 o k (boolCells (zb.take k)) /\ Below w2.heap.size w2 wr) (fun _ _ i _ => p.length - (intOf i).toNat)
 case atStart =>
  exact ⟨0, Nat.zero_le _, rfl, World.ownsRow_made w2 #[] 0 (Nat.le_refl _) (Nat.zero_le _) rfl, (Below.refl _ _).alloc (Nat.le_refl _) _⟩
 case round =>
  obtain ⟨k, hk, rfl, hown, hbel⟩ := hrel;have hsz := hbel.size;have x3 := x2.below hbel;have y3 := y2.below hbel
  by_cases hlt : k < p.length
  ·have hlt2 : k < q.length := by omega
   obtain ⟨g1, f1, rfl, _, hc1⟩ := x3.at_ (by omega);obtain ⟨g2, f2, rfl, _, hc2⟩ := y3.at_ (by omega);have d1 := hc1 k hlt;have d2 := hc2 k hlt2;have HZK : Hid (boolCells (zb.take (k + 1)) = boolCells (zb.take k) ++ [.bool (p[k] != q[k])]) := by
    have h := HZ.out;have h2 : k < zb.length := by rw [HZL.out]; exact hlt
    rw [take_snoc zb k h2, boolCells_append];subst h;simp only [List.getElem_zipWith];exact Lib.hid rfl
   clear hc1 hc2 x3 y3;generalize boolCells (zb.take k) = xs at *;generalize p[k] = b1' at *;generalize q[k] = b2' at *;go_wp2
   go_region_law (refine step_appendN_d _ 137 4 i0 (.bool false) _ Tryz.underlying137 hi hz0 hz1 hz2 rfl rfl (.tmp 19) (.tmp 29) rfl (by exact hown) rfl 1 rfl rfl (by simp [Value.oneCell']) (by omega) (by exact hsz) ?_; intro v1 w4 hown1 _ hb4)
   all_goals
    have HO : Hid (w4.ownsRow w2.heap.size 4 1 v1 (k + 1) (boolCells (zb.take (k + 1)))) := by
     rw [HZK.out];exact Lib.hid hown1
    clear hown1;go_wp2
    go_roundw
    case rel => exact ⟨k + 1, by omega, by go_num, HO.out, hbel.trans (hb4 _ (Nat.le_refl _))⟩
    case measure => simp [intOf]; omega
  ·obtain rfl : k = p.length := by omega
   rw [List.take_of_length_le (by rw [HZL.out]; exact Nat.le_refl _)] at hown;have hso := Slb.of_own (own_len hown HZL.out.symm);have hzl2 : zb.length <= 8388608 := by rw [HZL.out]; exact hlm
   clear hown
   go_wp2_with fail
   refine (refFromBits_any _ _ zb _ hso (Nat.le_refl _) (by omega)).mono ?_;rintro e w5 ⟨v5, rfl, g5⟩;go_wp2;go_ret;rw [HX.out, HF.out] at g5;exact ⟨_, rfl, own_base g5.1 (Nat.le_trans b12.size hbel.size), Below.trans (b12.trans (hbel.mono b12.size)) (g5.2.mono (Nat.le_trans b12.size hbel.size))⟩
structure Shh (p : Prop) : Prop where
 out : p
def SlIs (w : World) (bs : List UInt8) (e : Ending) (w' : World) : Prop := ∃ v, e = .returned v /\ Sl w' w'.heap.size v bs /\ Below w.heap.size w w'
set_option maxHeartbeats 1000000 in
theorem join_any (B g : Nat) (v : Value) (bss : List (List UInt8)) (w : World) (hp : PartsO w B g v bss) (hB : B <= w.heap.size) (hl : bss.flatten.length <= 1099511627776) (hn : bss.length <= 1000) :
  Calls Tryz.prog 52 #[v] w (OwnIs w bss.flatten) := by
 obtain ⟨i0, hi, hz0, hz1, hz2⟩ := info_parts info_u8;obtain ⟨A, c, rfl⟩ := hp.form;have hmk := make0_run bss.flatten.length (by omega);obtain ⟨N, hN⟩ : ∃ N, N = bss.flatten.length := ⟨_, rfl⟩;rw [<- hN] at hmk hl;have HN := Lib.hid hN;clear hN;go_enter Tryz.func52, Tryz.ntmps52;go_wp2
 go_loop [3, 5, 11] (fun s _ i => ∃ k : Nat, k <= bss.length /\ i = .int .i64 k /\ s = .int .i64 (((bss.take k).flatten.length : Nat) : Int)) (fun _ _ i => bss.length - (intOf i).toNat)
 case atStart => exact ⟨0, Nat.zero_le _, rfl, rfl⟩
 case round =>
  obtain ⟨k, hk, rfl, rfl⟩ := hrel
  by_cases hlt : k < bss.length
  ·obtain ⟨q, off, rfl, hq, hqg, hcc⟩ := hp.at_ (by omega);obtain ⟨u, hu, hs, ho⟩ := hcc k hlt;obtain ⟨A2, c2, rfl, _, _⟩ := hs.form;have hfl := flat_le bss (k + 1);rw [flat_snoc bss k hlt, List.length_append, <- HN.out] at hfl;have HF : Hid ((bss.take (k + 1)).flatten.length = (bss.take k).flatten.length + bss[k].length) := by
    rw [flat_snoc bss k hlt, List.length_append]; exact Lib.hid rfl
   clear hs ho hcc;generalize bss[k].length = m at *;generalize (bss.take k).flatten.length = f0 at *;go_wp2
   go_round
   case rel => exact ⟨k + 1, by omega, by go_num, by rw [HF.out]; go_num⟩
   case measure => simp [intOf]; omega
  ·obtain rfl : k = bss.length := by omega
   rw [List.take_of_length_le (Nat.le_refl _), <- HN.out];go_wp2;go_loopw [6, 8, 24] (fun o _ i wr => ∃ k : Nat, k <= bss.length /\ i = .int .i64 k /\ wr.ownsRow w.heap.size 5 1 o (bss.take k).flatten.length (Lib.byteCells (bss.take k).flatten) /\ Below w.heap.size w wr) (fun _ _ i _ => bss.length - (intOf i).toNat)
   case atStart =>
    exact ⟨0, Nat.zero_le _, rfl, World.ownsRow_made w _ N (Nat.le_refl _) (by unfold maxLen; omega) (by simp [Lib.byteCells]), (Below.refl _ _).alloc (Nat.le_refl _) _⟩
   case round =>
    obtain ⟨k, hk, rfl, hown, hbel⟩ := hrel;have hpr := hp.below (hbel.mono hB);have hsz := hbel.size
    by_cases hlt : k < bss.length
    ·obtain ⟨q, off, rfl, hq, hqg, hcc⟩ := hpr.at_ (by omega);obtain ⟨u, hu, hs, ho⟩ := hcc k hlt;have hfs := flat_snoc bss k hlt;have hfl := flat_le bss (k + 1);rw [hfs, List.length_append, <- HN.out] at hfl;have HF := Lib.hid hfs;clear hfs hpr hcc;generalize bss[k] = cs at *;generalize (bss.take k).flatten = f0 at *
     go_wp2_with (at_builtin; refine wp_appendSl _ 23 5 i0 Tryz.underlying23 hi hz0 hz1 hz2 rfl _ _ rfl hown hs rfl rfl (by omega) hsz ?_)
     intro v' w1 hown1 _ hb1;rw [<- HF.out] at hown1;have HO := Lib.hid (own_len hown1 (show f0.length + cs.length = (bss.take (k + 1)).flatten.length by rw [HF.out, List.length_append]));clear hown1;go_wp2
     go_roundw
     case rel => exact ⟨k + 1, by omega, by go_num, HO.out, hbel.trans (hb1 _ (Nat.le_refl _))⟩
     case measure => simp [intOf]; omega
    ·obtain rfl : k = bss.length := by omega
     rw [List.take_of_length_le (Nat.le_refl _)] at hown;have HO := Lib.hid hown;clear hown;go_wp2;go_ret;exact ⟨_, rfl, HO.out, hbel⟩
section
variable {w w' : World} {g : Nat} {T : TypeId} {cs : List Value} {v : Value} {bs : List UInt8}
theorem Sl.go (h : Sl w w.heap.size v bs) (b : Below w.heap.size w w') : Sl w' w'.heap.size v bs := (h.below b).more b.size
theorem Row.go (h : Row w g T cs) (b : Below w.heap.size w w') : Row w' g T cs := h.below b h.lt
theorem Vars.go (h : Vars w) (b : Below w.heap.size w w') : Vars w' := h.step b
def Own (w : World) (base : Nat) (v : Value) (bs : List UInt8) : Prop := w.ownsRow base 5 1 v bs.length (Lib.byteCells bs)
theorem Own.go {base : Nat} (h : Own w base v bs) (b : Below w.heap.size w w') : Own w' base v bs := own_step h b
theorem Own.lt {base : Nat} (h : Own w base v bs) (k : Nat) (hk : v.ownBlock = some k) : base <= k /\ k < w.heap.size := World.ownsRow.lt h k hk
theorem Row.sl {n : Nat} (hr : Row w g T (Lib.byteCells bs)) (hn : bs.length = n) (hm : n <= 1000000) : Sl w w.heap.size (.slice (some ⟨g, 0, none⟩) n n) bs := Sl.of_bytes hr hr.lt hn hm
end
theorem run_arr32_h (g j : Nat) (hj : j <= 32) (w : World) : (Instr.sliceAt 155 (.pointer (some ⟨g, 0, none⟩)) none (some (.int .i64 (j : Int))) none).run Tryz.prog w = .ok (.slice (some ⟨g, 0, none⟩) j 32) w := by
 have hA : Tryz.prog.arrayLen 155 = 32 := by kernel_rfl
 have hE : Tryz.prog.elem 155 = 5 := by kernel_rfl
 have hu : Tryz.prog.underlying 155 = some (.array (Tryz.prog.arrayLen 155) (Tryz.prog.elem 155)) := by kernel_rfl
 rw [run_sliceAt_array_h w 155 ⟨g, 0, none⟩ hu .i64 (j : Int) (by omega) (by rw [hA]; omega), hE, run_sizeOf_u8, Result.andThen_ok, hA, Int.toNat_natCast];simp [slicedAt, addr_add]
set_option maxHeartbeats 1000000 in
theorem u32_any (n : Nat) (w : World) (hn : n < 4294967296) :
  Calls Tryz.prog 53 #[.int .u32 n] w (OwnIs w (bigB n 4)) := by
 unfold OwnIs;have q : (n : Int) % 18446744073709551616 = (n : Int) := by omega
 go_enter Tryz.func53, Tryz.ntmps53
 go_wp2_with (go_at_call 92; refine (bigBytes_any n 4 _ (by omega)).mono ?_)
 rintro e w1 ⟨v, rfl, rfl, hb, hbel⟩;go_wp2;go_ret;exact ⟨_, rfl, own_of_blk (bigB_length _ _) (by omega) hb hbel⟩
end Go.Proofs.YtdakbipiifkmfaaGreatDoor
