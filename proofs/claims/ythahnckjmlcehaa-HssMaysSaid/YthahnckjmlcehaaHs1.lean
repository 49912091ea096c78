/-
  LEVELS: a slice of pairs of codes; the sets of a level, the program's and the document's.
-/
import Derived.Test.YthahnckjmlcehaaPb4
import Derived.Test.YthahnckjmlcehaaPa4
import Derived.Test.YthahnckjmlcehaaPa7
import Derived.Test.YthahnckjmlcehaaOpen6
import Derived.Deep.Slices
import Derived.Deep.SlicePairs
namespace Go.Proofs.Ythahnckjmlcehaa
open Go.ChangeShapes Go.WideShapes Go.ChangeAt Go.RowKit
set_option maxRecDepth 100000
/-- v is a slice that reads as the pairs l -/
def Lvs (w : World) (B : Nat) (v : Value) (l : List (Nat × Nat)) : Prop :=
  ∃ A c, v = .slice A l.length c ∧ l.length ≤ c ∧ c ≤ maxLen ∧ (0 < l.length → ∃ q off, A = some ⟨q, off, none⟩ ∧ q < B ∧ ∀ k (h : k < l.length), w.cell? ⟨q, off + k * 2, none⟩ = some (.int .u32 (l[k].1 : Int)) ∧ w.cell? ⟨q, off + k * 2 + 1, none⟩ = some (.int .u32 (l[k].2 : Int)))
def LvOk (l : List (Nat × Nat)) : Prop := ∀ x ∈ l, x.1 < 4294967296 ∧ x.2 < 4294967296
theorem Lvs.below {w w' : World} {B : Nat} {v : Value} {l : List (Nat × Nat)} (h : Lvs w B v l) (hb : Below B w w') : Lvs w' B v l := by
  obtain ⟨A, c, hv, h1, h2, hc⟩ := h
  refine ⟨A, c, hv, h1, h2, fun hn => ?_⟩
  obtain ⟨q, off, hA, hq, hr⟩ := hc hn
  exact ⟨q, off, hA, hq, fun k hk => ⟨(hb.cell (p := ⟨q, off + k * 2, none⟩) hq).trans (hr k hk).1, (hb.cell (p := ⟨q, off + k * 2 + 1, none⟩) hq).trans (hr k hk).2⟩⟩
theorem Lvs.more {w : World} {B B' : Nat} {v : Value} {l : List (Nat × Nat)} (h : Lvs w B v l) (hB : B ≤ B') : Lvs w B' v l := by
  obtain ⟨A, c, hv, h1, h2, hc⟩ := h
  refine ⟨A, c, hv, h1, h2, fun hn => ?_⟩
  obtain ⟨q, off, hA, hq, hr⟩ := hc hn
  exact ⟨q, off, hA, by omega, hr⟩
theorem Lvs.go {w w' : World} {v : Value} {l : List (Nat × Nat)} (h : Lvs w w.heap.size v l) (b : Below w.heap.size w w') : Lvs w' w'.heap.size v l := (h.below b).more b.size
theorem Lvs.form {w : World} {B : Nat} {v : Value} {l : List (Nat × Nat)} (h : Lvs w B v l) : ∃ A c, v = .slice A l.length c ∧ l.length ≤ c ∧ c ≤ maxLen := by
  obtain ⟨A, c, hv, h1, h2, _⟩ := h
  exact ⟨A, c, hv, h1, h2⟩
theorem Lvs.at_ {w : World} {B n c : Nat} {A : Option Addr} {l : List (Nat × Nat)} (h : Lvs w B (.slice A n c) l) (hn : 0 < l.length) : ∃ q off, A = some ⟨q, off, none⟩ ∧ q < B ∧ ∀ k (h : k < l.length), w.cell? ⟨q, off + k * 2, none⟩ = some (.int .u32 (l[k].1 : Int)) ∧ w.cell? ⟨q, off + k * 2 + 1, none⟩ = some (.int .u32 (l[k].2 : Int)) := by
  obtain ⟨A', c', hv, _, _, hc⟩ := h
  cases hv
  exact hc hn
theorem Lvs.nil_ {w : World} {B : Nat} : Lvs w B (.slice none 0 0) [] := ⟨none, 0, rfl, Nat.le_refl _, by unfold maxLen; omega, fun h => absurd h (by simp)⟩
section
variable {H : Type} {enc : TypeId × Value → H}
def intOfL : Value → Int
  | .int _ a => a
  | _ => 0
theorem cells_lv : Try.prog.cellsOf 43 = 2 := by kernel_rfl
theorem cells_u32l : Try.prog.cellsOf 35 = 1 := by kernel_rfl
theorem open_lvs {W : World} {base : Nat} {v : Value} {d : DataW H} {ps : List MemPlace} (hval : Value.okWide Try.prog W .any base 22 v) (h : DataW.Trod enc Try.prog W 0 (fun _ => true) true 22 v d ps) :
    ∃ l : List (Nat × Nat), Lvs W W.heap.size v l ∧ LvOk l ∧ l.length ≤ 9223372036854775807 := by
  obtain ⟨a0, len, cap, rfl⟩ := okWide_slice Try.underlying22 hval
  obtain ⟨fuel, hf⟩ := h
  rcases Deep.open_slice Try.underlying22 hf with ⟨hcs, _⟩ | ⟨a, len', cap', m, n, D, Pl, hcs, _, hl, hm, hmm, _, hx⟩
  · simp [Value.cells] at hcs
    obtain ⟨rfl, rfl, rfl⟩ := hcs
    exact ⟨[], ⟨none, 0, rfl, Nat.le_refl _, by unfold maxLen; omega, fun h => by cases h⟩, (fun _ h => by cases h), by decide⟩
  · simp [Value.cells] at hcs
    obtain ⟨rfl, rfl, rfl⟩ := hcs
    simp only [if_true] at hmm
    subst hmm
    rw [cells_lv] at hx
    have each : ∀ i, i < len → ∃ q : Int × Int, W.cell? (a.add (i * 2)) = some (.int .u32 q.1) ∧ W.cell? (a.add (i * 2 + 1)) = some (.int .u32 q.2) ∧ (0 ≤ q.1 ∧ q.1 ≤ 4294967295) ∧ (0 ≤ q.2 ∧ q.2 ≤ 4294967295) := by
      intro i hi
      obtain ⟨cs', h1, h2⟩ := hx i (by omega)
      obtain ⟨_, hlen, hcell⟩ := World.cells?_some h1
      obtain ⟨xs, k, hk, hxy, _, hxl, hfd⟩ := DataW.trod_struct Try.underlying43 h2
      match xs, hxl, cs', hlen with
      | [y0, y1], _, [u0, u1], _ =>
        have g0 := hfd 0 _ rfl
        have g1 := hfd 1 _ rfl
        simp [cells_u32l] at g0 g1
        have e0 := hcell 0 (by omega)
        have e1 := hcell 1 (by omega)
        rw [Deep.add_add] at e0 e1
        obtain ⟨z0, hz0, wf0⟩ := DataW.trod_int Try.underlying35 g0
        obtain ⟨z1, hz1, wf1⟩ := DataW.trod_int Try.underlying35 g1
        simp only [List.cons.injEq, and_true] at hz0 hz1
        subst hz0
        subst hz1
        exact ⟨(z0, z1), by simpa using e0, by simpa using e1, by simpa [Lit.wf, IntKind.min, IntKind.max, IntKind.signed, IntKind.bits] using wf0.2, by simpa [Lit.wf, IntKind.min, IntKind.max, IntKind.signed, IntKind.bits] using wf1.2⟩
    obtain ⟨q, hq⟩ := Deep.choose_lt (α := Int × Int) each
    refine ⟨(List.range len).map fun i => ((q i).1.toNat, (q i).2.toNat), ⟨some a, m, by simp, by simpa using hl, hm, fun hn => ?_⟩, ?_, by unfold maxLen at hm; simp only [List.length_map, List.length_range]; omega⟩
    · simp only [List.length_map, List.length_range] at hn
      have h0 := (hq 0 (by omega)).1
      have hsp : a.spot = none := by
        rw [Nat.zero_mul] at h0
        simp only [Addr.add, if_true, World.cell?] at h0
        split at h0
        · split at h0
          · cases h0
          · rename_i hns; simpa using hns
        · cases h0
      obtain ⟨b, off, sp⟩ := a
      simp only at hsp
      subst hsp
      have hb : b < W.heap.size := by
        have := World.block_lt_of_cell? W _ h0
        simpa [Addr.add] using this
      refine ⟨b, off, rfl, hb, fun k hk => ?_⟩
      simp only [List.length_map, List.length_range] at hk
      obtain ⟨c0, c1, r0, r1⟩ := hq k (by omega)
      rw [addr_add] at c0 c1
      simp only [List.getElem_map, List.getElem_range]
      refine ⟨?_, ?_⟩
      · rw [c0, Int.toNat_of_nonneg r0.1]
      · rw [Nat.add_assoc, c1, Int.toNat_of_nonneg r1.1]
    · intro x hx
      simp only [List.mem_map, List.mem_range] at hx
      obtain ⟨i, hi, rfl⟩ := hx
      obtain ⟨_, _, r0, r1⟩ := hq i hi
      constructor <;> simp only <;> omega
end
theorem results_rows2 {P : Program} {fn : Func} {p q : Tmp} {tp tq : TypeId} (h : fn.results = #[.cell p tp, .cell q tq]) (tmps : Array Value) (w : World) (g k : Nat) (t u : TypeId) (cs ds : List Value) (d e : TypeDesc)
    (hp : tmps.getD p undef = .pointer (some ⟨g, 0, none⟩)) (hq : tmps.getD q undef = .pointer (some ⟨k, 0, none⟩)) (hg : Row w g t cs) (hk : Row w k u ds)
    (hu : P.underlying tp = some d) (hd : (match d with | .struct _ | .array _ _ => true | _ => false) = true) (hi : (P.info? tp).map (·.size) = some cs.length)
    (hu2 : P.underlying tq = some e) (hd2 : (match e with | .struct _ | .array _ _ => true | _ => false) = true) (hi2 : (P.info? tq).map (·.size) = some ds.length) :
    (results fn tmps).run P w = .ok (.tuple #[.agg cs.toArray, .agg ds.toArray]) w := by
  have hp' : tmps[p]?.getD undef = .pointer (some ⟨g, 0, none⟩) := by simpa using hp
  have hq' : tmps[q]?.getD undef = .pointer (some ⟨k, 0, none⟩) := by simpa using hq
  simp [results, h, hp', hq', asAddr, Sem.run_bind, Result.andThen, run_loadVar_row w g t tp cs.toArray (0, 0) d hg hu hd (by simpa using hi), run_loadVar_row w k u tq ds.toArray (0, 0) e hk hu2 hd2 (by simpa using hi2)]
theorem refSets_any (a b : Nat) (ha : a < 4294967296) (w : World) : Calls Try.prog 13 #[.agg #[.int .u32 (a : Int), .int .u32 (b : Int)]] w (OldIs (.tuple #[lmsV a, otsV b]) w) := by
  unfold OldIs
  have HV : Shh ((∀ W, Calls Try.prog 23 #[.int .u32 (a : Int)] W (OldIs (.tuple #[lmsV a, .int .i64 (lE a)]) W)) ∧ ∀ W, Calls Try.prog 24 #[.int .u32 (b : Int)] W (OldIs (.tuple #[otsV b, .int .i64 (oE b)]) W)) := ⟨fun W => refLms_any a ha W, fun W => refOts_any b W⟩
  unfold lmsV otsV at HV ⊢
  generalize lE a = le at HV
  generalize oE b = oe at HV
  generalize lC a = l0 at HV ⊢
  generalize lSh a = l1 at HV ⊢
  generalize lN a = l2 at HV ⊢
  generalize (lH a : Int) = l3 at HV ⊢
  generalize oC b = o0 at HV ⊢
  generalize (oR b).1 = o1 at HV ⊢
  generalize (oR b).2.1 = o2 at HV ⊢
  generalize (oR b).2.2.1 = o3 at HV ⊢
  generalize (oR b).2.2.2.1 = o4 at HV ⊢
  generalize (oR b).2.2.2.2 = o5 at HV ⊢
  obtain ⟨W, hW⟩ : ∃ W, W = ((w.alloc (.cells #[.int .u32 (a : Int), .int .u32 (b : Int)] 43)).alloc (.cells #[.int .u32 0, .bool false, .int .i64 0, .int .i64 0] 37)).alloc (.cells #[.int .u32 0, .bool false, .int .i64 0, .int .i64 0, .int .i64 0, .int .i64 0] 39) := ⟨_, rfl⟩
  have HW : Shh (Row W w.heap.size 43 [.int .u32 (a : Int), .int .u32 (b : Int)] ∧ Row W (w.heap.size + 1) 37 [.int .u32 0, .bool false, .int .i64 0, .int .i64 0] ∧ Row W (w.heap.size + 2) 39 [.int .u32 0, .bool false, .int .i64 0, .int .i64 0, .int .i64 0, .int .i64 0] ∧ Below w.heap.size w W ∧ W.heap.size = w.heap.size + 3) := by
    rw [hW]
    refine ⟨((Row.new_ rfl rfl).alloc _).alloc _, (Row.new_ (by rw [asz]) rfl).alloc _, Row.new_ (by rw [asz, asz]) rfl, ((Below.alloc (Below.refl _ _) (by omega) _).alloc (by rw [asz]; omega) _).alloc (by rw [asz, asz]; omega) _, by rw [asz, asz, asz]⟩
  go_enter Try.func13, Try.ntmps13
  go_wp2_with (go_at_call 23; refine (HV.out.1 _).mono ?_)
  unfold OldIs
  rw [← hW]
  rintro e w2 ⟨rfl, b2⟩
  have F2 : Shh (Row w2 w.heap.size 43 [.int .u32 (a : Int), .int .u32 (b : Int)] ∧ Row w2 (w.heap.size + 1) 37 [.int .u32 0, .bool false, .int .i64 0, .int .i64 0] ∧ Row w2 (w.heap.size + 2) 39 [.int .u32 0, .bool false, .int .i64 0, .int .i64 0, .int .i64 0, .int .i64 0] ∧ Below w.heap.size w w2 ∧ w.heap.size + 3 ≤ w2.heap.size) := ⟨HW.out.1.go b2, HW.out.2.1.go b2, HW.out.2.2.1.go b2, Below.chain HW.out.2.2.2.1 b2, by have := b2.size; have := HW.out.2.2.2.2; omega⟩
  clear HW b2 hW
  obtain ⟨M, hM⟩ : ∃ M, Shh (M = w2.heap.size) := ⟨_, ⟨rfl⟩⟩
  go_wp2_with (refine wpList_store_any rfl 37 (.tmp 4) (.tmp 12) rfl M (by rw [hM.out]; rfl) [.int .u32 l0, .bool l1, .int .i64 l2, .int .i64 l3] rfl 37 _ (Row.new_ hM.out rfl) info_lms rfl oneCell4 ?_)
  intro Z hr bt _
  have F3 : Shh (Row Z w.heap.size 43 [.int .u32 (a : Int), .int .u32 (b : Int)] ∧ Row Z (w.heap.size + 1) 37 [.int .u32 0, .bool false, .int .i64 0, .int .i64 0] ∧ Row Z (w.heap.size + 2) 39 [.int .u32 0, .bool false, .int .i64 0, .int .i64 0, .int .i64 0, .int .i64 0] ∧ Row Z M 37 [.int .u32 l0, .bool l1, .int .i64 l2, .int .i64 l3] ∧ Below w.heap.size w Z ∧ w.heap.size + 3 ≤ M ∧ M < Z.heap.size) := by
    have hl := F2.out.2.2.2.2
    have hm := hM.out
    refine ⟨bt.row (F2.out.1.alloc _) (by first | omega | (rw [asz]; omega)) (by omega), bt.row (F2.out.2.1.alloc _) (by first | omega | (rw [asz]; omega)) (by omega), bt.row (F2.out.2.2.1.alloc _) (by first | omega | (rw [asz]; omega)) (by omega), hr, Below.chain F2.out.2.2.2.1 ?_, by omega, hr.lt⟩
    exact (Below.alloc (Below.refl _ _) (Nat.le_refl _) _).trans (bt.under (by first | omega | (rw [asz]; omega)) (by omega))
  have c1 := F3.out.1.cell 1
  simp only [List.getElem?_cons_succ, List.getElem?_cons_zero] at c1
  rw [← hM.out]
  clear hr bt F2 hM
  go_wp2_with (go_at_call 24; refine (HV.out.2 _).mono ?_)
  unfold OldIs
  rintro e w3 ⟨rfl, b3⟩
  have F4 : Shh (Row w3 (w.heap.size + 1) 37 [.int .u32 0, .bool false, .int .i64 0, .int .i64 0] ∧ Row w3 (w.heap.size + 2) 39 [.int .u32 0, .bool false, .int .i64 0, .int .i64 0, .int .i64 0, .int .i64 0] ∧ Row w3 M 37 [.int .u32 l0, .bool l1, .int .i64 l2, .int .i64 l3] ∧ Below w.heap.size w w3 ∧ w.heap.size + 3 ≤ M ∧ M < w3.heap.size) := ⟨F3.out.2.1.go b3, F3.out.2.2.1.go b3, F3.out.2.2.2.1.go b3, Below.chain F3.out.2.2.2.2.1 b3, F3.out.2.2.2.2.2.1, by have := b3.size; have := F3.out.2.2.2.2.2.2; omega⟩
  clear F3 b3 c1 HV
  obtain ⟨K, hK⟩ : ∃ K, Shh (K = w3.heap.size) := ⟨_, ⟨rfl⟩⟩
  go_wp2_with (refine wpList_store_any rfl 39 (.tmp 6) (.tmp 18) rfl K (by rw [hK.out]; rfl) [.int .u32 o0, .bool o1, .int .i64 o2, .int .i64 o3, .int .i64 o4, .int .i64 o5] rfl 39 _ (Row.new_ hK.out rfl) info_ots rfl oneCell6 ?_)
  intro Z hr bt _
  have F5 : Shh (Row Z (w.heap.size + 1) 37 [.int .u32 0, .bool false, .int .i64 0, .int .i64 0] ∧ Row Z (w.heap.size + 2) 39 [.int .u32 0, .bool false, .int .i64 0, .int .i64 0, .int .i64 0, .int .i64 0] ∧ Row Z M 37 [.int .u32 l0, .bool l1, .int .i64 l2, .int .i64 l3] ∧ Row Z K 39 [.int .u32 o0, .bool o1, .int .i64 o2, .int .i64 o3, .int .i64 o4, .int .i64 o5] ∧ Below w.heap.size w Z ∧ w.heap.size + 3 ≤ M ∧ M < K) := by
    have hl := F4.out.2.2.2.2
    have hm := hK.out
    refine ⟨bt.row (F4.out.1.alloc _) (by first | omega | (rw [asz]; omega)) (by omega), bt.row (F4.out.2.1.alloc _) (by first | omega | (rw [asz]; omega)) (by omega), bt.row (F4.out.2.2.1.alloc _) (by first | omega | (rw [asz]; omega)) (by omega), hr, Below.chain F4.out.2.2.2.1 ?_, by omega, by omega⟩
    exact (Below.alloc (Below.refl _ _) (Nat.le_refl _) _).trans (bt.under (by first | omega | (rw [asz]; omega)) (by omega))
  rw [← hK.out]
  clear hr bt F4 hK
  go_wp2
  obtain ⟨R1, R2, RM, RK, HB, h1, h2⟩ := F5.out
  refine wp_region_held_drew (S := fun w' => w'.rangeAt M 0 [.int .u32 l0, .bool l1, .int .i64 l2, .int .i64 l3] ∧ w'.rangeAt K 0 [.int .u32 o0, .bool o1, .int .i64 o2, .int .i64 o3, .int .i64 o4, .int .i64 o5]) (by kernel_rfl) ⟨RM.drew.range, RK.drew.range⟩ (fun hS => ?_)
  obtain ⟨V, hV⟩ : ∃ V, V = World.drew Z := ⟨_, rfl⟩
  rw [← hV] at hS ⊢
  replace R1 := R1.drew
  replace R2 := R2.drew
  replace RM := RM.drew
  replace RK := RK.drew
  replace HB := HB.drew
  rw [← hV] at R1 R2 RM RK HB
  clear F5
  refine held_load 0 37 (.tmp 4) (some 20) (by kernel_rfl) (by rfl) (by kernel_rfl) M 0 (by kernel_rfl) ([.int .u32 l0, .bool l1, .int .i64 l2, .int .i64 l3]) _ (fun w h => h.1) Try.underlying37 rfl (info_lms) (fun _ _ _ _ h => h) (⟨RM.range, RK.range⟩) ?_
  simp only [Act.put, List.setIfInBounds_toArray, List.set_cons_zero, List.set_cons_succ]
  refine held_load 1 39 (.tmp 6) (some 21) (by kernel_rfl) (by rfl) (by kernel_rfl) K 0 (by kernel_rfl) ([.int .u32 o0, .bool o1, .int .i64 o2, .int .i64 o3, .int .i64 o4, .int .i64 o5]) _ (fun w h => h.2) Try.underlying39 rfl (info_ots) (fun _ _ _ _ h => h) (⟨RM.range, RK.range⟩) ?_
  simp only [Act.put, List.setIfInBounds_toArray, List.set_cons_zero, List.set_cons_succ]
  refine held_one 2 (by kernel_rfl) ?_
  refine step_storeRow 2 37 (.tmp 2) (.tmp 20) (by rfl) (by kernel_rfl) (w.heap.size + 1) rfl ([.int .u32 l0, .bool l1, .int .i64 l2, .int .i64 l3]) rfl 37 ([.int .u32 0, .bool false, .int .i64 0, .int .i64 0]) R1 (info_lms) rfl oneCell4 ?_
  intro Y1 r1 bt zt
  replace R2 := bt.row R2 R2.lt (by omega)
  replace RM := bt.row RM RM.lt (by omega)
  replace RK := bt.row RK RK.lt (by omega)
  replace HB := HB.trans (bt.under (by have := HB.size; omega) (by omega))
  replace R1 := r1
  clear bt zt r1
  refine ⟨⟨RM.range, RK.range⟩, ?_⟩
  refine held_one 3 (by kernel_rfl) ?_
  refine step_storeRow 3 39 (.tmp 3) (.tmp 21) (by rfl) (by kernel_rfl) (w.heap.size + 2) rfl ([.int .u32 o0, .bool o1, .int .i64 o2, .int .i64 o3, .int .i64 o4, .int .i64 o5]) rfl 39 ([.int .u32 0, .bool false, .int .i64 0, .int .i64 0, .int .i64 0, .int .i64 0]) R2 (info_ots) rfl oneCell6 ?_
  intro Y2 r1 bt zt
  replace R1 := bt.row R1 R1.lt (by omega)
  replace RM := bt.row RM RM.lt (by omega)
  replace RK := bt.row RK RK.lt (by omega)
  replace HB := HB.trans (bt.under (by have := HB.size; omega) (by omega))
  replace R2 := r1
  clear bt zt r1
  refine ⟨⟨RM.range, RK.range⟩, ?_⟩
  refine wpAnyH_done (by kernel_rfl) ?_ _
  clear hS hV
  go_wp2
  refine bodyPost_ret (v := .tuple #[.agg ([.int .u32 l0, .bool l1, .int .i64 l2, .int .i64 l3]).toArray, .agg ([.int .u32 o0, .bool o1, .int .i64 o2, .int .i64 o3, .int .i64 o4, .int .i64 o5]).toArray]) (results_rows2 Try.results13 _ _ (w.heap.size + 1) (w.heap.size + 2) 37 39 _ _ _ _ rfl rfl R1 R2 Try.underlying37 rfl info_lms Try.underlying39 rfl info_ots) rfl ⟨rfl, HB⟩
end Go.Proofs.Ythahnckjmlcehaa
