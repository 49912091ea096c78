/-
  WALKS: the sets of LM-OTS: what the program answers for each code.
-/
import Derived.Test.YthahnckjmlcehaaPa2
namespace Go.Proofs.Ythahnckjmlcehaa
open Go.RowKit
set_option maxRecDepth 100000
theorem results_row_slot {P : Program} {fn : Func} {q p : Tmp} {ty : TypeId} (h : fn.results = #[.cell p ty, .tmp q]) (tmps : Array Value) (w : World) (g : Nat) (t : TypeId) (cs : List Value) (d : TypeDesc) (v : Value)
    (hq : tmps.getD q undef = v) (hp : tmps.getD p undef = .pointer (some ⟨g, 0, none⟩)) (hg : Row w g t cs)
    (hu : P.underlying ty = some d) (hd : (match d with | .struct _ | .array _ _ => true | _ => false) = true) (hi : (P.info? ty).map (·.size) = some cs.length) :
    (results fn tmps).run P w = .ok (.tuple #[.agg cs.toArray, v]) w := by
  have hp' : tmps[p]?.getD undef = .pointer (some ⟨g, 0, none⟩) := by simpa using hp
  have hq' : tmps[q]?.getD undef = v := by simpa using hq
  simp [results, h, hp', hq', asAddr, run_loadVar_row w g t ty cs.toArray (0, 0) d hg hu hd (by simpa using hi)]
theorem ret_rs {P : Program} {f : Func} {a : Act} {q p : Tmp} {ty : TypeId} {d : TypeDesc} {post : Ending → World → Prop} {w : World} {g : Nat} {T : TypeId} {cs : List Value} {v : Value} (hf : f.results = #[.cell p ty, .tmp q]) (hdf : a.defers = []) (hq : a.tmps.getD q undef = v) (hp : a.tmps.getD p undef = .pointer (some ⟨g, 0, none⟩)) (hr : Row w g T cs)
    (hu : P.underlying ty = some d) (hd : (match d with | .struct _ | .array _ _ => true | _ => false) = true) (hi : (P.info? ty).map (·.size) = some cs.length) (h : post (.returned (.tuple #[.agg cs.toArray, v])) w) : bodyPost P f post .ret a w :=
  bodyPost_ret (v := .tuple #[.agg cs.toArray, v]) (results_row_slot hf _ _ g T cs d v hq hp hr hu hd hi) hdf h
/-- Shake, N, W, P, LS of a code -/
def oTab : List (Bool × Int × Int × Int × Int) := [(false, 0, 0, 0, 0),
  (false, 32, 1, 265, 7), (false, 32, 2, 133, 6), (false, 32, 4, 67, 4), (false, 32, 8, 34, 0),
  (false, 24, 1, 200, 8), (false, 24, 2, 101, 6), (false, 24, 4, 51, 4), (false, 24, 8, 26, 0),
  (true, 32, 1, 265, 7), (true, 32, 2, 133, 6), (true, 32, 4, 67, 4), (true, 32, 8, 34, 0),
  (true, 24, 1, 200, 8), (true, 24, 2, 101, 6), (true, 24, 4, 51, 4), (true, 24, 8, 26, 0)]
def oR (c : Nat) : Bool × Int × Int × Int × Int := oTab.getD c (false, 0, 0, 0, 0)
def oOk (c : Nat) : Prop := 1 ≤ c ∧ c ≤ 16
def oC (c : Nat) : Int := if 1 ≤ c ∧ c ≤ 16 then (c : Int) else 0
def oE (c : Nat) : Int := if 1 ≤ c ∧ c ≤ 16 then 0 else 60
def oL (c : Nat) : List Value := [.int .u32 (oC c), .bool (oR c).1, .int .i64 (oR c).2.1, .int .i64 (oR c).2.2.1, .int .i64 (oR c).2.2.2.1, .int .i64 (oR c).2.2.2.2]
def otsV (c : Nat) : Value := .agg #[.int .u32 (oC c), .bool (oR c).1, .int .i64 (oR c).2.1, .int .i64 (oR c).2.2.1, .int .i64 (oR c).2.2.2.1, .int .i64 (oR c).2.2.2.2]
theorem oR_none {c : Nat} (h : c < 1 ∨ 16 < c) : oR c = (false, 0, 0, 0, 0) ∧ oC c = 0 ∧ oE c = 60 := by
  refine ⟨?_, ?_, ?_⟩
  · by_cases h0 : c = 0
    · subst h0; rfl
    · unfold oR
      rw [List.getD_eq_getElem?_getD, List.getElem?_eq_none (by show 17 ≤ c; omega)]
      rfl
  · unfold oC; rw [if_neg (by omega)]
  · unfold oE; rw [if_neg (by omega)]
theorem info_ots : (Try.prog.info? 39).map (·.size) = some 6 := by kernel_rfl
theorem oneCell6 {a : Int} {b : Bool} {c d e f : Int} : ∀ u ∈ [Value.int .u32 a, .bool b, .int .i64 c, .int .i64 d, .int .i64 e, .int .i64 f], u.oneCell' = true := by
  intro u hu
  simp only [List.mem_cons, List.not_mem_nil, or_false] at hu
  rcases hu with rfl | rfl | rfl | rfl | rfl | rfl <;> rfl
theorem ots_none (c : Nat) (h : c < 1 ∨ 16 < c) (w : World) : Calls Try.prog 43 #[.int .u32 (c : Int)] w (OldIs (.tuple #[otsV c, .int .i64 (oE c)]) w) := by
  unfold OldIs otsV
  obtain ⟨e1, e2, e3⟩ := oR_none h
  rw [e1, e2, e3]
  obtain ⟨W, hW⟩ : ∃ W, W = w.alloc (.cells #[.int .u32 0, .bool false, .int .i64 0, .int .i64 0, .int .i64 0, .int .i64 0] 39) := ⟨_, rfl⟩
  have HW : Shh (Row W w.heap.size 39 [.int .u32 0, .bool false, .int .i64 0, .int .i64 0, .int .i64 0, .int .i64 0] ∧ Below w.heap.size w W) := ⟨by rw [hW]; exact Row.new_ rfl rfl, by rw [hW]; exact Below.alloc (Below.refl _ _) (Nat.le_refl _) _⟩
  rw [hW] at HW
  clear hW
  rcases h with h | h
  · obtain rfl : c = 0 := by omega
    go_enter Try.func43, Try.ntmps43
    go_wp2_with (refine wpList_store_any rfl 39 (.tmp 2) (.tmp 15) rfl w.heap.size rfl [.int .u32 0, .bool false, .int .i64 0, .int .i64 0, .int .i64 0, .int .i64 0] rfl 39 _ HW.out.1 info_ots rfl oneCell6 ?_)
    intro Z hr bt _
    have F : Shh (Row Z w.heap.size 39 [.int .u32 0, .bool false, .int .i64 0, .int .i64 0, .int .i64 0, .int .i64 0] ∧ Below w.heap.size w Z) := ⟨hr, HW.out.2.trans (bt.under (by omega) (Nat.le_refl _))⟩
    clear hr bt HW
    go_wp2
    exact ret_rs Try.results43 rfl rfl rfl F.out.1 Try.underlying39 rfl info_ots ⟨rfl, F.out.2⟩
  · have h1 : ¬ (c : Int) < 1 := by omega
    have h2 : (16 : Int) < (c : Int) := by omega
    go_enter Try.func43, Try.ntmps43
    go_wp2_with (refine wpList_store_any rfl 39 (.tmp 2) (.tmp 15) rfl w.heap.size rfl [.int .u32 0, .bool false, .int .i64 0, .int .i64 0, .int .i64 0, .int .i64 0] rfl 39 _ HW.out.1 info_ots rfl oneCell6 ?_)
    intro Z hr bt _
    have F : Shh (Row Z w.heap.size 39 [.int .u32 0, .bool false, .int .i64 0, .int .i64 0, .int .i64 0, .int .i64 0] ∧ Below w.heap.size w Z) := ⟨hr, HW.out.2.trans (bt.under (by omega) (Nat.le_refl _))⟩
    clear hr bt HW
    go_wp2
    exact ret_rs Try.results43 rfl rfl rfl F.out.1 Try.underlying39 rfl info_ots ⟨rfl, F.out.2⟩
theorem ots_1 (w : World) : Calls Try.prog 43 #[.int .u32 1] w (OldIs (.tuple #[.agg #[.int .u32 1, .bool false, .int .i64 32, .int .i64 1, .int .i64 265, .int .i64 7], .int .i64 0]) w) := by
  unfold OldIs
  have hh : ∀ W, Calls Try.prog 48 #[.int .u32 0] W (StayIs (.tuple #[.bool false, .int .i64 32]) W) := fun W => hashOf_any 0 W
  obtain ⟨W, hW⟩ : ∃ W, W = w.alloc (.cells #[.int .u32 0, .bool false, .int .i64 0, .int .i64 0, .int .i64 0, .int .i64 0] 39) := ⟨_, rfl⟩
  have HW : Shh (Row W w.heap.size 39 [.int .u32 0, .bool false, .int .i64 0, .int .i64 0, .int .i64 0, .int .i64 0] ∧ Below w.heap.size w W) := ⟨by rw [hW]; exact Row.new_ rfl rfl, by rw [hW]; exact Below.alloc (Below.refl _ _) (Nat.le_refl _) _⟩
  rw [hW] at HW
  clear hW
  go_enter Try.func43, Try.ntmps43
  go_wp2_with (go_at_call 48; refine (hh _).mono ?_)
  unfold StayIs
  rintro e w2 ⟨rfl, rfl⟩
  go_wp2_with (go_at_call 49; refine (digits_0 _).mono ?_)
  unfold OldIs
  rintro e V ⟨rfl, bV⟩
  have HV : Shh (Row V w.heap.size 39 [.int .u32 0, .bool false, .int .i64 0, .int .i64 0, .int .i64 0, .int .i64 0] ∧ Below w.heap.size w V) := ⟨HW.out.1.go bV, Below.chain HW.out.2 bV⟩
  clear HW bV hh
  go_wp2_with (refine wpList_store_any rfl 39 (.tmp 2) (.tmp 44) rfl w.heap.size rfl [.int .u32 1, .bool false, .int .i64 32, .int .i64 1, .int .i64 265, .int .i64 7] rfl 39 _ HV.out.1 info_ots rfl oneCell6 ?_)
  intro Z hr bt _
  have F : Shh (Row Z w.heap.size 39 [.int .u32 1, .bool false, .int .i64 32, .int .i64 1, .int .i64 265, .int .i64 7] ∧ Below w.heap.size w Z) := ⟨hr, HV.out.2.trans (bt.under HV.out.2.size (Nat.le_refl _))⟩
  clear hr bt HV
  go_wp2
  exact ret_rs Try.results43 rfl rfl rfl F.out.1 Try.underlying39 rfl info_ots ⟨rfl, F.out.2⟩
theorem ots_2 (w : World) : Calls Try.prog 43 #[.int .u32 2] w (OldIs (.tuple #[.agg #[.int .u32 2, .bool false, .int .i64 32, .int .i64 2, .int .i64 133, .int .i64 6], .int .i64 0]) w) := by
  unfold OldIs
  have hh : ∀ W, Calls Try.prog 48 #[.int .u32 0] W (StayIs (.tuple #[.bool false, .int .i64 32]) W) := fun W => hashOf_any 0 W
  obtain ⟨W, hW⟩ : ∃ W, W = w.alloc (.cells #[.int .u32 0, .bool false, .int .i64 0, .int .i64 0, .int .i64 0, .int .i64 0] 39) := ⟨_, rfl⟩
  have HW : Shh (Row W w.heap.size 39 [.int .u32 0, .bool false, .int .i64 0, .int .i64 0, .int .i64 0, .int .i64 0] ∧ Below w.heap.size w W) := ⟨by rw [hW]; exact Row.new_ rfl rfl, by rw [hW]; exact Below.alloc (Below.refl _ _) (Nat.le_refl _) _⟩
  rw [hW] at HW
  clear hW
  go_enter Try.func43, Try.ntmps43
  go_wp2_with (go_at_call 48; refine (hh _).mono ?_)
  unfold StayIs
  rintro e w2 ⟨rfl, rfl⟩
  go_wp2_with (go_at_call 49; refine (digits_1 _).mono ?_)
  unfold OldIs
  rintro e V ⟨rfl, bV⟩
  have HV : Shh (Row V w.heap.size 39 [.int .u32 0, .bool false, .int .i64 0, .int .i64 0, .int .i64 0, .int .i64 0] ∧ Below w.heap.size w V) := ⟨HW.out.1.go bV, Below.chain HW.out.2 bV⟩
  clear HW bV hh
  go_wp2_with (refine wpList_store_any rfl 39 (.tmp 2) (.tmp 44) rfl w.heap.size rfl [.int .u32 2, .bool false, .int .i64 32, .int .i64 2, .int .i64 133, .int .i64 6] rfl 39 _ HV.out.1 info_ots rfl oneCell6 ?_)
  intro Z hr bt _
  have F : Shh (Row Z w.heap.size 39 [.int .u32 2, .bool false, .int .i64 32, .int .i64 2, .int .i64 133, .int .i64 6] ∧ Below w.heap.size w Z) := ⟨hr, HV.out.2.trans (bt.under HV.out.2.size (Nat.le_refl _))⟩
  clear hr bt HV
  go_wp2
  exact ret_rs Try.results43 rfl rfl rfl F.out.1 Try.underlying39 rfl info_ots ⟨rfl, F.out.2⟩
theorem ots_3 (w : World) : Calls Try.prog 43 #[.int .u32 3] w (OldIs (.tuple #[.agg #[.int .u32 3, .bool false, .int .i64 32, .int .i64 4, .int .i64 67, .int .i64 4], .int .i64 0]) w) := by
  unfold OldIs
  have hh : ∀ W, Calls Try.prog 48 #[.int .u32 0] W (StayIs (.tuple #[.bool false, .int .i64 32]) W) := fun W => hashOf_any 0 W
  obtain ⟨W, hW⟩ : ∃ W, W = w.alloc (.cells #[.int .u32 0, .bool false, .int .i64 0, .int .i64 0, .int .i64 0, .int .i64 0] 39) := ⟨_, rfl⟩
  have HW : Shh (Row W w.heap.size 39 [.int .u32 0, .bool false, .int .i64 0, .int .i64 0, .int .i64 0, .int .i64 0] ∧ Below w.heap.size w W) := ⟨by rw [hW]; exact Row.new_ rfl rfl, by rw [hW]; exact Below.alloc (Below.refl _ _) (Nat.le_refl _) _⟩
  rw [hW] at HW
  clear hW
  go_enter Try.func43, Try.ntmps43
  go_wp2_with (go_at_call 48; refine (hh _).mono ?_)
  unfold StayIs
  rintro e w2 ⟨rfl, rfl⟩
  go_wp2_with (go_at_call 49; refine (digits_2 _).mono ?_)
  unfold OldIs
  rintro e V ⟨rfl, bV⟩
  have HV : Shh (Row V w.heap.size 39 [.int .u32 0, .bool false, .int .i64 0, .int .i64 0, .int .i64 0, .int .i64 0] ∧ Below w.heap.size w V) := ⟨HW.out.1.go bV, Below.chain HW.out.2 bV⟩
  clear HW bV hh
  go_wp2_with (refine wpList_store_any rfl 39 (.tmp 2) (.tmp 44) rfl w.heap.size rfl [.int .u32 3, .bool false, .int .i64 32, .int .i64 4, .int .i64 67, .int .i64 4] rfl 39 _ HV.out.1 info_ots rfl oneCell6 ?_)
  intro Z hr bt _
  have F : Shh (Row Z w.heap.size 39 [.int .u32 3, .bool false, .int .i64 32, .int .i64 4, .int .i64 67, .int .i64 4] ∧ Below w.heap.size w Z) := ⟨hr, HV.out.2.trans (bt.under HV.out.2.size (Nat.le_refl _))⟩
  clear hr bt HV
  go_wp2
  exact ret_rs Try.results43 rfl rfl rfl F.out.1 Try.underlying39 rfl info_ots ⟨rfl, F.out.2⟩
theorem ots_4 (w : World) : Calls Try.prog 43 #[.int .u32 4] w (OldIs (.tuple #[.agg #[.int .u32 4, .bool false, .int .i64 32, .int .i64 8, .int .i64 34, .int .i64 0], .int .i64 0]) w) := by
  unfold OldIs
  have hh : ∀ W, Calls Try.prog 48 #[.int .u32 0] W (StayIs (.tuple #[.bool false, .int .i64 32]) W) := fun W => hashOf_any 0 W
  obtain ⟨W, hW⟩ : ∃ W, W = w.alloc (.cells #[.int .u32 0, .bool false, .int .i64 0, .int .i64 0, .int .i64 0, .int .i64 0] 39) := ⟨_, rfl⟩
  have HW : Shh (Row W w.heap.size 39 [.int .u32 0, .bool false, .int .i64 0, .int .i64 0, .int .i64 0, .int .i64 0] ∧ Below w.heap.size w W) := ⟨by rw [hW]; exact Row.new_ rfl rfl, by rw [hW]; exact Below.alloc (Below.refl _ _) (Nat.le_refl _) _⟩
  rw [hW] at HW
  clear hW
  go_enter Try.func43, Try.ntmps43
  go_wp2_with (go_at_call 48; refine (hh _).mono ?_)
  unfold StayIs
  rintro e w2 ⟨rfl, rfl⟩
  go_wp2_with (go_at_call 49; refine (digits_3 _).mono ?_)
  unfold OldIs
  rintro e V ⟨rfl, bV⟩
  have HV : Shh (Row V w.heap.size 39 [.int .u32 0, .bool false, .int .i64 0, .int .i64 0, .int .i64 0, .int .i64 0] ∧ Below w.heap.size w V) := ⟨HW.out.1.go bV, Below.chain HW.out.2 bV⟩
  clear HW bV hh
  go_wp2_with (refine wpList_store_any rfl 39 (.tmp 2) (.tmp 44) rfl w.heap.size rfl [.int .u32 4, .bool false, .int .i64 32, .int .i64 8, .int .i64 34, .int .i64 0] rfl 39 _ HV.out.1 info_ots rfl oneCell6 ?_)
  intro Z hr bt _
  have F : Shh (Row Z w.heap.size 39 [.int .u32 4, .bool false, .int .i64 32, .int .i64 8, .int .i64 34, .int .i64 0] ∧ Below w.heap.size w Z) := ⟨hr, HV.out.2.trans (bt.under HV.out.2.size (Nat.le_refl _))⟩
  clear hr bt HV
  go_wp2
  exact ret_rs Try.results43 rfl rfl rfl F.out.1 Try.underlying39 rfl info_ots ⟨rfl, F.out.2⟩
theorem ots_5 (w : World) : Calls Try.prog 43 #[.int .u32 5] w (OldIs (.tuple #[.agg #[.int .u32 5, .bool false, .int .i64 24, .int .i64 1, .int .i64 200, .int .i64 8], .int .i64 0]) w) := by
  unfold OldIs
  have hh : ∀ W, Calls Try.prog 48 #[.int .u32 1] W (StayIs (.tuple #[.bool false, .int .i64 24]) W) := fun W => hashOf_any 1 W
  obtain ⟨W, hW⟩ : ∃ W, W = w.alloc (.cells #[.int .u32 0, .bool false, .int .i64 0, .int .i64 0, .int .i64 0, .int .i64 0] 39) := ⟨_, rfl⟩
  have HW : Shh (Row W w.heap.size 39 [.int .u32 0, .bool false, .int .i64 0, .int .i64 0, .int .i64 0, .int .i64 0] ∧ Below w.heap.size w W) := ⟨by rw [hW]; exact Row.new_ rfl rfl, by rw [hW]; exact Below.alloc (Below.refl _ _) (Nat.le_refl _) _⟩
  rw [hW] at HW
  clear hW
  go_enter Try.func43, Try.ntmps43
  go_wp2_with (go_at_call 48; refine (hh _).mono ?_)
  unfold StayIs
  rintro e w2 ⟨rfl, rfl⟩
  go_wp2_with (go_at_call 49; refine (digits_4 _).mono ?_)
  unfold OldIs
  rintro e V ⟨rfl, bV⟩
  have HV : Shh (Row V w.heap.size 39 [.int .u32 0, .bool false, .int .i64 0, .int .i64 0, .int .i64 0, .int .i64 0] ∧ Below w.heap.size w V) := ⟨HW.out.1.go bV, Below.chain HW.out.2 bV⟩
  clear HW bV hh
  go_wp2_with (refine wpList_store_any rfl 39 (.tmp 2) (.tmp 44) rfl w.heap.size rfl [.int .u32 5, .bool false, .int .i64 24, .int .i64 1, .int .i64 200, .int .i64 8] rfl 39 _ HV.out.1 info_ots rfl oneCell6 ?_)
  intro Z hr bt _
  have F : Shh (Row Z w.heap.size 39 [.int .u32 5, .bool false, .int .i64 24, .int .i64 1, .int .i64 200, .int .i64 8] ∧ Below w.heap.size w Z) := ⟨hr, HV.out.2.trans (bt.under HV.out.2.size (Nat.le_refl _))⟩
  clear hr bt HV
  go_wp2
  exact ret_rs Try.results43 rfl rfl rfl F.out.1 Try.underlying39 rfl info_ots ⟨rfl, F.out.2⟩
theorem ots_6 (w : World) : Calls Try.prog 43 #[.int .u32 6] w (OldIs (.tuple #[.agg #[.int .u32 6, .bool false, .int .i64 24, .int .i64 2, .int .i64 101, .int .i64 6], .int .i64 0]) w) := by
  unfold OldIs
  have hh : ∀ W, Calls Try.prog 48 #[.int .u32 1] W (StayIs (.tuple #[.bool false, .int .i64 24]) W) := fun W => hashOf_any 1 W
  obtain ⟨W, hW⟩ : ∃ W, W = w.alloc (.cells #[.int .u32 0, .bool false, .int .i64 0, .int .i64 0, .int .i64 0, .int .i64 0] 39) := ⟨_, rfl⟩
  have HW : Shh (Row W w.heap.size 39 [.int .u32 0, .bool false, .int .i64 0, .int .i64 0, .int .i64 0, .int .i64 0] ∧ Below w.heap.size w W) := ⟨by rw [hW]; exact Row.new_ rfl rfl, by rw [hW]; exact Below.alloc (Below.refl _ _) (Nat.le_refl _) _⟩
  rw [hW] at HW
  clear hW
  go_enter Try.func43, Try.ntmps43
  go_wp2_with (go_at_call 48; refine (hh _).mono ?_)
  unfold StayIs
  rintro e w2 ⟨rfl, rfl⟩
  go_wp2_with (go_at_call 49; refine (digits_5 _).mono ?_)
  unfold OldIs
  rintro e V ⟨rfl, bV⟩
  have HV : Shh (Row V w.heap.size 39 [.int .u32 0, .bool false, .int .i64 0, .int .i64 0, .int .i64 0, .int .i64 0] ∧ Below w.heap.size w V) := ⟨HW.out.1.go bV, Below.chain HW.out.2 bV⟩
  clear HW bV hh
  go_wp2_with (refine wpList_store_any rfl 39 (.tmp 2) (.tmp 44) rfl w.heap.size rfl [.int .u32 6, .bool false, .int .i64 24, .int .i64 2, .int .i64 101, .int .i64 6] rfl 39 _ HV.out.1 info_ots rfl oneCell6 ?_)
  intro Z hr bt _
  have F : Shh (Row Z w.heap.size 39 [.int .u32 6, .bool false, .int .i64 24, .int .i64 2, .int .i64 101, .int .i64 6] ∧ Below w.heap.size w Z) := ⟨hr, HV.out.2.trans (bt.under HV.out.2.size (Nat.le_refl _))⟩
  clear hr bt HV
  go_wp2
  exact ret_rs Try.results43 rfl rfl rfl F.out.1 Try.underlying39 rfl info_ots ⟨rfl, F.out.2⟩
theorem ots_7 (w : World) : Calls Try.prog 43 #[.int .u32 7] w (OldIs (.tuple #[.agg #[.int .u32 7, .bool false, .int .i64 24, .int .i64 4, .int .i64 51, .int .i64 4], .int .i64 0]) w) := by
  unfold OldIs
  have hh : ∀ W, Calls Try.prog 48 #[.int .u32 1] W (StayIs (.tuple #[.bool false, .int .i64 24]) W) := fun W => hashOf_any 1 W
  obtain ⟨W, hW⟩ : ∃ W, W = w.alloc (.cells #[.int .u32 0, .bool false, .int .i64 0, .int .i64 0, .int .i64 0, .int .i64 0] 39) := ⟨_, rfl⟩
  have HW : Shh (Row W w.heap.size 39 [.int .u32 0, .bool false, .int .i64 0, .int .i64 0, .int .i64 0, .int .i64 0] ∧ Below w.heap.size w W) := ⟨by rw [hW]; exact Row.new_ rfl rfl, by rw [hW]; exact Below.alloc (Below.refl _ _) (Nat.le_refl _) _⟩
  rw [hW] at HW
  clear hW
  go_enter Try.func43, Try.ntmps43
  go_wp2_with (go_at_call 48; refine (hh _).mono ?_)
  unfold StayIs
  rintro e w2 ⟨rfl, rfl⟩
  go_wp2_with (go_at_call 49; refine (digits_6 _).mono ?_)
  unfold OldIs
  rintro e V ⟨rfl, bV⟩
  have HV : Shh (Row V w.heap.size 39 [.int .u32 0, .bool false, .int .i64 0, .int .i64 0, .int .i64 0, .int .i64 0] ∧ Below w.heap.size w V) := ⟨HW.out.1.go bV, Below.chain HW.out.2 bV⟩
  clear HW bV hh
  go_wp2_with (refine wpList_store_any rfl 39 (.tmp 2) (.tmp 44) rfl w.heap.size rfl [.int .u32 7, .bool false, .int .i64 24, .int .i64 4, .int .i64 51, .int .i64 4] rfl 39 _ HV.out.1 info_ots rfl oneCell6 ?_)
  intro Z hr bt _
  have F : Shh (Row Z w.heap.size 39 [.int .u32 7, .bool false, .int .i64 24, .int .i64 4, .int .i64 51, .int .i64 4] ∧ Below w.heap.size w Z) := ⟨hr, HV.out.2.trans (bt.under HV.out.2.size (Nat.le_refl _))⟩
  clear hr bt HV
  go_wp2
  exact ret_rs Try.results43 rfl rfl rfl F.out.1 Try.underlying39 rfl info_ots ⟨rfl, F.out.2⟩
theorem ots_8 (w : World) : Calls Try.prog 43 #[.int .u32 8] w (OldIs (.tuple #[.agg #[.int .u32 8, .bool false, .int .i64 24, .int .i64 8, .int .i64 26, .int .i64 0], .int .i64 0]) w) := by
  unfold OldIs
  have hh : ∀ W, Calls Try.prog 48 #[.int .u32 1] W (StayIs (.tuple #[.bool false, .int .i64 24]) W) := fun W => hashOf_any 1 W
  obtain ⟨W, hW⟩ : ∃ W, W = w.alloc (.cells #[.int .u32 0, .bool false, .int .i64 0, .int .i64 0, .int .i64 0, .int .i64 0] 39) := ⟨_, rfl⟩
  have HW : Shh (Row W w.heap.size 39 [.int .u32 0, .bool false, .int .i64 0, .int .i64 0, .int .i64 0, .int .i64 0] ∧ Below w.heap.size w W) := ⟨by rw [hW]; exact Row.new_ rfl rfl, by rw [hW]; exact Below.alloc (Below.refl _ _) (Nat.le_refl _) _⟩
  rw [hW] at HW
  clear hW
  go_enter Try.func43, Try.ntmps43
  go_wp2_with (go_at_call 48; refine (hh _).mono ?_)
  unfold StayIs
  rintro e w2 ⟨rfl, rfl⟩
  go_wp2_with (go_at_call 49; refine (digits_7 _).mono ?_)
  unfold OldIs
  rintro e V ⟨rfl, bV⟩
  have HV : Shh (Row V w.heap.size 39 [.int .u32 0, .bool false, .int .i64 0, .int .i64 0, .int .i64 0, .int .i64 0] ∧ Below w.heap.size w V) := ⟨HW.out.1.go bV, Below.chain HW.out.2 bV⟩
  clear HW bV hh
  go_wp2_with (refine wpList_store_any rfl 39 (.tmp 2) (.tmp 44) rfl w.heap.size rfl [.int .u32 8, .bool false, .int .i64 24, .int .i64 8, .int .i64 26, .int .i64 0] rfl 39 _ HV.out.1 info_ots rfl oneCell6 ?_)
  intro Z hr bt _
  have F : Shh (Row Z w.heap.size 39 [.int .u32 8, .bool false, .int .i64 24, .int .i64 8, .int .i64 26, .int .i64 0] ∧ Below w.heap.size w Z) := ⟨hr, HV.out.2.trans (bt.under HV.out.2.size (Nat.le_refl _))⟩
  clear hr bt HV
  go_wp2
  exact ret_rs Try.results43 rfl rfl rfl F.out.1 Try.underlying39 rfl info_ots ⟨rfl, F.out.2⟩
theorem ots_9 (w : World) : Calls Try.prog 43 #[.int .u32 9] w (OldIs (.tuple #[.agg #[.int .u32 9, .bool true, .int .i64 32, .int .i64 1, .int .i64 265, .int .i64 7], .int .i64 0]) w) := by
  unfold OldIs
  have hh : ∀ W, Calls Try.prog 48 #[.int .u32 2] W (StayIs (.tuple #[.bool true, .int .i64 32]) W) := fun W => hashOf_any 2 W
  obtain ⟨W, hW⟩ : ∃ W, W = w.alloc (.cells #[.int .u32 0, .bool false, .int .i64 0, .int .i64 0, .int .i64 0, .int .i64 0] 39) := ⟨_, rfl⟩
  have HW : Shh (Row W w.heap.size 39 [.int .u32 0, .bool false, .int .i64 0, .int .i64 0, .int .i64 0, .int .i64 0] ∧ Below w.heap.size w W) := ⟨by rw [hW]; exact Row.new_ rfl rfl, by rw [hW]; exact Below.alloc (Below.refl _ _) (Nat.le_refl _) _⟩
  rw [hW] at HW
  clear hW
  go_enter Try.func43, Try.ntmps43
  go_wp2_with (go_at_call 48; refine (hh _).mono ?_)
  unfold StayIs
  rintro e w2 ⟨rfl, rfl⟩
  go_wp2_with (go_at_call 49; refine (digits_0 _).mono ?_)
  unfold OldIs
  rintro e V ⟨rfl, bV⟩
  have HV : Shh (Row V w.heap.size 39 [.int .u32 0, .bool false, .int .i64 0, .int .i64 0, .int .i64 0, .int .i64 0] ∧ Below w.heap.size w V) := ⟨HW.out.1.go bV, Below.chain HW.out.2 bV⟩
  clear HW bV hh
  go_wp2_with (refine wpList_store_any rfl 39 (.tmp 2) (.tmp 44) rfl w.heap.size rfl [.int .u32 9, .bool true, .int .i64 32, .int .i64 1, .int .i64 265, .int .i64 7] rfl 39 _ HV.out.1 info_ots rfl oneCell6 ?_)
  intro Z hr bt _
  have F : Shh (Row Z w.heap.size 39 [.int .u32 9, .bool true, .int .i64 32, .int .i64 1, .int .i64 265, .int .i64 7] ∧ Below w.heap.size w Z) := ⟨hr, HV.out.2.trans (bt.under HV.out.2.size (Nat.le_refl _))⟩
  clear hr bt HV
  go_wp2
  exact ret_rs Try.results43 rfl rfl rfl F.out.1 Try.underlying39 rfl info_ots ⟨rfl, F.out.2⟩
theorem ots_10 (w : World) : Calls Try.prog 43 #[.int .u32 10] w (OldIs (.tuple #[.agg #[.int .u32 10, .bool true, .int .i64 32, .int .i64 2, .int .i64 133, .int .i64 6], .int .i64 0]) w) := by
  unfold OldIs
  have hh : ∀ W, Calls Try.prog 48 #[.int .u32 2] W (StayIs (.tuple #[.bool true, .int .i64 32]) W) := fun W => hashOf_any 2 W
  obtain ⟨W, hW⟩ : ∃ W, W = w.alloc (.cells #[.int .u32 0, .bool false, .int .i64 0, .int .i64 0, .int .i64 0, .int .i64 0] 39) := ⟨_, rfl⟩
  have HW : Shh (Row W w.heap.size 39 [.int .u32 0, .bool false, .int .i64 0, .int .i64 0, .int .i64 0, .int .i64 0] ∧ Below w.heap.size w W) := ⟨by rw [hW]; exact Row.new_ rfl rfl, by rw [hW]; exact Below.alloc (Below.refl _ _) (Nat.le_refl _) _⟩
  rw [hW] at HW
  clear hW
  go_enter Try.func43, Try.ntmps43
  go_wp2_with (go_at_call 48; refine (hh _).mono ?_)
  unfold StayIs
  rintro e w2 ⟨rfl, rfl⟩
  go_wp2_with (go_at_call 49; refine (digits_1 _).mono ?_)
  unfold OldIs
  rintro e V ⟨rfl, bV⟩
  have HV : Shh (Row V w.heap.size 39 [.int .u32 0, .bool false, .int .i64 0, .int .i64 0, .int .i64 0, .int .i64 0] ∧ Below w.heap.size w V) := ⟨HW.out.1.go bV, Below.chain HW.out.2 bV⟩
  clear HW bV hh
  go_wp2_with (refine wpList_store_any rfl 39 (.tmp 2) (.tmp 44) rfl w.heap.size rfl [.int .u32 10, .bool true, .int .i64 32, .int .i64 2, .int .i64 133, .int .i64 6] rfl 39 _ HV.out.1 info_ots rfl oneCell6 ?_)
  intro Z hr bt _
  have F : Shh (Row Z w.heap.size 39 [.int .u32 10, .bool true, .int .i64 32, .int .i64 2, .int .i64 133, .int .i64 6] ∧ Below w.heap.size w Z) := ⟨hr, HV.out.2.trans (bt.under HV.out.2.size (Nat.le_refl _))⟩
  clear hr bt HV
  go_wp2
  exact ret_rs Try.results43 rfl rfl rfl F.out.1 Try.underlying39 rfl info_ots ⟨rfl, F.out.2⟩
theorem ots_11 (w : World) : Calls Try.prog 43 #[.int .u32 11] w (OldIs (.tuple #[.agg #[.int .u32 11, .bool true, .int .i64 32, .int .i64 4, .int .i64 67, .int .i64 4], .int .i64 0]) w) := by
  unfold OldIs
  have hh : ∀ W, Calls Try.prog 48 #[.int .u32 2] W (StayIs (.tuple #[.bool true, .int .i64 32]) W) := fun W => hashOf_any 2 W
  obtain ⟨W, hW⟩ : ∃ W, W = w.alloc (.cells #[.int .u32 0, .bool false, .int .i64 0, .int .i64 0, .int .i64 0, .int .i64 0] 39) := ⟨_, rfl⟩
  have HW : Shh (Row W w.heap.size 39 [.int .u32 0, .bool false, .int .i64 0, .int .i64 0, .int .i64 0, .int .i64 0] ∧ Below w.heap.size w W) := ⟨by rw [hW]; exact Row.new_ rfl rfl, by rw [hW]; exact Below.alloc (Below.refl _ _) (Nat.le_refl _) _⟩
  rw [hW] at HW
  clear hW
  go_enter Try.func43, Try.ntmps43
  go_wp2_with (go_at_call 48; refine (hh _).mono ?_)
  unfold StayIs
  rintro e w2 ⟨rfl, rfl⟩
  go_wp2_with (go_at_call 49; refine (digits_2 _).mono ?_)
  unfold OldIs
  rintro e V ⟨rfl, bV⟩
  have HV : Shh (Row V w.heap.size 39 [.int .u32 0, .bool false, .int .i64 0, .int .i64 0, .int .i64 0, .int .i64 0] ∧ Below w.heap.size w V) := ⟨HW.out.1.go bV, Below.chain HW.out.2 bV⟩
  clear HW bV hh
  go_wp2_with (refine wpList_store_any rfl 39 (.tmp 2) (.tmp 44) rfl w.heap.size rfl [.int .u32 11, .bool true, .int .i64 32, .int .i64 4, .int .i64 67, .int .i64 4] rfl 39 _ HV.out.1 info_ots rfl oneCell6 ?_)
  intro Z hr bt _
  have F : Shh (Row Z w.heap.size 39 [.int .u32 11, .bool true, .int .i64 32, .int .i64 4, .int .i64 67, .int .i64 4] ∧ Below w.heap.size w Z) := ⟨hr, HV.out.2.trans (bt.under HV.out.2.size (Nat.le_refl _))⟩
  clear hr bt HV
  go_wp2
  exact ret_rs Try.results43 rfl rfl rfl F.out.1 Try.underlying39 rfl info_ots ⟨rfl, F.out.2⟩
theorem ots_12 (w : World) : Calls Try.prog 43 #[.int .u32 12] w (OldIs (.tuple #[.agg #[.int .u32 12, .bool true, .int .i64 32, .int .i64 8, .int .i64 34, .int .i64 0], .int .i64 0]) w) := by
  unfold OldIs
  have hh : ∀ W, Calls Try.prog 48 #[.int .u32 2] W (StayIs (.tuple #[.bool true, .int .i64 32]) W) := fun W => hashOf_any 2 W
  obtain ⟨W, hW⟩ : ∃ W, W = w.alloc (.cells #[.int .u32 0, .bool false, .int .i64 0, .int .i64 0, .int .i64 0, .int .i64 0] 39) := ⟨_, rfl⟩
  have HW : Shh (Row W w.heap.size 39 [.int .u32 0, .bool false, .int .i64 0, .int .i64 0, .int .i64 0, .int .i64 0] ∧ Below w.heap.size w W) := ⟨by rw [hW]; exact Row.new_ rfl rfl, by rw [hW]; exact Below.alloc (Below.refl _ _) (Nat.le_refl _) _⟩
  rw [hW] at HW
  clear hW
  go_enter Try.func43, Try.ntmps43
  go_wp2_with (go_at_call 48; refine (hh _).mono ?_)
  unfold StayIs
  rintro e w2 ⟨rfl, rfl⟩
  go_wp2_with (go_at_call 49; refine (digits_3 _).mono ?_)
  unfold OldIs
  rintro e V ⟨rfl, bV⟩
  have HV : Shh (Row V w.heap.size 39 [.int .u32 0, .bool false, .int .i64 0, .int .i64 0, .int .i64 0, .int .i64 0] ∧ Below w.heap.size w V) := ⟨HW.out.1.go bV, Below.chain HW.out.2 bV⟩
  clear HW bV hh
  go_wp2_with (refine wpList_store_any rfl 39 (.tmp 2) (.tmp 44) rfl w.heap.size rfl [.int .u32 12, .bool true, .int .i64 32, .int .i64 8, .int .i64 34, .int .i64 0] rfl 39 _ HV.out.1 info_ots rfl oneCell6 ?_)
  intro Z hr bt _
  have F : Shh (Row Z w.heap.size 39 [.int .u32 12, .bool true, .int .i64 32, .int .i64 8, .int .i64 34, .int .i64 0] ∧ Below w.heap.size w Z) := ⟨hr, HV.out.2.trans (bt.under HV.out.2.size (Nat.le_refl _))⟩
  clear hr bt HV
  go_wp2
  exact ret_rs Try.results43 rfl rfl rfl F.out.1 Try.underlying39 rfl info_ots ⟨rfl, F.out.2⟩
theorem ots_13 (w : World) : Calls Try.prog 43 #[.int .u32 13] w (OldIs (.tuple #[.agg #[.int .u32 13, .bool true, .int .i64 24, .int .i64 1, .int .i64 200, .int .i64 8], .int .i64 0]) w) := by
  unfold OldIs
  have hh : ∀ W, Calls Try.prog 48 #[.int .u32 3] W (StayIs (.tuple #[.bool true, .int .i64 24]) W) := fun W => hashOf_any 3 W
  obtain ⟨W, hW⟩ : ∃ W, W = w.alloc (.cells #[.int .u32 0, .bool false, .int .i64 0, .int .i64 0, .int .i64 0, .int .i64 0] 39) := ⟨_, rfl⟩
  have HW : Shh (Row W w.heap.size 39 [.int .u32 0, .bool false, .int .i64 0, .int .i64 0, .int .i64 0, .int .i64 0] ∧ Below w.heap.size w W) := ⟨by rw [hW]; exact Row.new_ rfl rfl, by rw [hW]; exact Below.alloc (Below.refl _ _) (Nat.le_refl _) _⟩
  rw [hW] at HW
  clear hW
  go_enter Try.func43, Try.ntmps43
  go_wp2_with (go_at_call 48; refine (hh _).mono ?_)
  unfold StayIs
  rintro e w2 ⟨rfl, rfl⟩
  go_wp2_with (go_at_call 49; refine (digits_4 _).mono ?_)
  unfold OldIs
  rintro e V ⟨rfl, bV⟩
  have HV : Shh (Row V w.heap.size 39 [.int .u32 0, .bool false, .int .i64 0, .int .i64 0, .int .i64 0, .int .i64 0] ∧ Below w.heap.size w V) := ⟨HW.out.1.go bV, Below.chain HW.out.2 bV⟩
  clear HW bV hh
  go_wp2_with (refine wpList_store_any rfl 39 (.tmp 2) (.tmp 44) rfl w.heap.size rfl [.int .u32 13, .bool true, .int .i64 24, .int .i64 1, .int .i64 200, .int .i64 8] rfl 39 _ HV.out.1 info_ots rfl oneCell6 ?_)
  intro Z hr bt _
  have F : Shh (Row Z w.heap.size 39 [.int .u32 13, .bool true, .int .i64 24, .int .i64 1, .int .i64 200, .int .i64 8] ∧ Below w.heap.size w Z) := ⟨hr, HV.out.2.trans (bt.under HV.out.2.size (Nat.le_refl _))⟩
  clear hr bt HV
  go_wp2
  exact ret_rs Try.results43 rfl rfl rfl F.out.1 Try.underlying39 rfl info_ots ⟨rfl, F.out.2⟩
theorem ots_14 (w : World) : Calls Try.prog 43 #[.int .u32 14] w (OldIs (.tuple #[.agg #[.int .u32 14, .bool true, .int .i64 24, .int .i64 2, .int .i64 101, .int .i64 6], .int .i64 0]) w) := by
  unfold OldIs
  have hh : ∀ W, Calls Try.prog 48 #[.int .u32 3] W (StayIs (.tuple #[.bool true, .int .i64 24]) W) := fun W => hashOf_any 3 W
  obtain ⟨W, hW⟩ : ∃ W, W = w.alloc (.cells #[.int .u32 0, .bool false, .int .i64 0, .int .i64 0, .int .i64 0, .int .i64 0] 39) := ⟨_, rfl⟩
  have HW : Shh (Row W w.heap.size 39 [.int .u32 0, .bool false, .int .i64 0, .int .i64 0, .int .i64 0, .int .i64 0] ∧ Below w.heap.size w W) := ⟨by rw [hW]; exact Row.new_ rfl rfl, by rw [hW]; exact Below.alloc (Below.refl _ _) (Nat.le_refl _) _⟩
  rw [hW] at HW
  clear hW
  go_enter Try.func43, Try.ntmps43
  go_wp2_with (go_at_call 48; refine (hh _).mono ?_)
  unfold StayIs
  rintro e w2 ⟨rfl, rfl⟩
  go_wp2_with (go_at_call 49; refine (digits_5 _).mono ?_)
  unfold OldIs
  rintro e V ⟨rfl, bV⟩
  have HV : Shh (Row V w.heap.size 39 [.int .u32 0, .bool false, .int .i64 0, .int .i64 0, .int .i64 0, .int .i64 0] ∧ Below w.heap.size w V) := ⟨HW.out.1.go bV, Below.chain HW.out.2 bV⟩
  clear HW bV hh
  go_wp2_with (refine wpList_store_any rfl 39 (.tmp 2) (.tmp 44) rfl w.heap.size rfl [.int .u32 14, .bool true, .int .i64 24, .int .i64 2, .int .i64 101, .int .i64 6] rfl 39 _ HV.out.1 info_ots rfl oneCell6 ?_)
  intro Z hr bt _
  have F : Shh (Row Z w.heap.size 39 [.int .u32 14, .bool true, .int .i64 24, .int .i64 2, .int .i64 101, .int .i64 6] ∧ Below w.heap.size w Z) := ⟨hr, HV.out.2.trans (bt.under HV.out.2.size (Nat.le_refl _))⟩
  clear hr bt HV
  go_wp2
  exact ret_rs Try.results43 rfl rfl rfl F.out.1 Try.underlying39 rfl info_ots ⟨rfl, F.out.2⟩
theorem ots_15 (w : World) : Calls Try.prog 43 #[.int .u32 15] w (OldIs (.tuple #[.agg #[.int .u32 15, .bool true, .int .i64 24, .int .i64 4, .int .i64 51, .int .i64 4], .int .i64 0]) w) := by
  unfold OldIs
  have hh : ∀ W, Calls Try.prog 48 #[.int .u32 3] W (StayIs (.tuple #[.bool true, .int .i64 24]) W) := fun W => hashOf_any 3 W
  obtain ⟨W, hW⟩ : ∃ W, W = w.alloc (.cells #[.int .u32 0, .bool false, .int .i64 0, .int .i64 0, .int .i64 0, .int .i64 0] 39) := ⟨_, rfl⟩
  have HW : Shh (Row W w.heap.size 39 [.int .u32 0, .bool false, .int .i64 0, .int .i64 0, .int .i64 0, .int .i64 0] ∧ Below w.heap.size w W) := ⟨by rw [hW]; exact Row.new_ rfl rfl, by rw [hW]; exact Below.alloc (Below.refl _ _) (Nat.le_refl _) _⟩
  rw [hW] at HW
  clear hW
  go_enter Try.func43, Try.ntmps43
  go_wp2_with (go_at_call 48; refine (hh _).mono ?_)
  unfold StayIs
  rintro e w2 ⟨rfl, rfl⟩
  go_wp2_with (go_at_call 49; refine (digits_6 _).mono ?_)
  unfold OldIs
  rintro e V ⟨rfl, bV⟩
  have HV : Shh (Row V w.heap.size 39 [.int .u32 0, .bool false, .int .i64 0, .int .i64 0, .int .i64 0, .int .i64 0] ∧ Below w.heap.size w V) := ⟨HW.out.1.go bV, Below.chain HW.out.2 bV⟩
  clear HW bV hh
  go_wp2_with (refine wpList_store_any rfl 39 (.tmp 2) (.tmp 44) rfl w.heap.size rfl [.int .u32 15, .bool true, .int .i64 24, .int .i64 4, .int .i64 51, .int .i64 4] rfl 39 _ HV.out.1 info_ots rfl oneCell6 ?_)
  intro Z hr bt _
  have F : Shh (Row Z w.heap.size 39 [.int .u32 15, .bool true, .int .i64 24, .int .i64 4, .int .i64 51, .int .i64 4] ∧ Below w.heap.size w Z) := ⟨hr, HV.out.2.trans (bt.under HV.out.2.size (Nat.le_refl _))⟩
  clear hr bt HV
  go_wp2
  exact ret_rs Try.results43 rfl rfl rfl F.out.1 Try.underlying39 rfl info_ots ⟨rfl, F.out.2⟩
theorem ots_16 (w : World) : Calls Try.prog 43 #[.int .u32 16] w (OldIs (.tuple #[.agg #[.int .u32 16, .bool true, .int .i64 24, .int .i64 8, .int .i64 26, .int .i64 0], .int .i64 0]) w) := by
  unfold OldIs
  have hh : ∀ W, Calls Try.prog 48 #[.int .u32 3] W (StayIs (.tuple #[.bool true, .int .i64 24]) W) := fun W => hashOf_any 3 W
  obtain ⟨W, hW⟩ : ∃ W, W = w.alloc (.cells #[.int .u32 0, .bool false, .int .i64 0, .int .i64 0, .int .i64 0, .int .i64 0] 39) := ⟨_, rfl⟩
  have HW : Shh (Row W w.heap.size 39 [.int .u32 0, .bool false, .int .i64 0, .int .i64 0, .int .i64 0, .int .i64 0] ∧ Below w.heap.size w W) := ⟨by rw [hW]; exact Row.new_ rfl rfl, by rw [hW]; exact Below.alloc (Below.refl _ _) (Nat.le_refl _) _⟩
  rw [hW] at HW
  clear hW
  go_enter Try.func43, Try.ntmps43
  go_wp2_with (go_at_call 48; refine (hh _).mono ?_)
  unfold StayIs
  rintro e w2 ⟨rfl, rfl⟩
  go_wp2_with (go_at_call 49; refine (digits_7 _).mono ?_)
  unfold OldIs
  rintro e V ⟨rfl, bV⟩
  have HV : Shh (Row V w.heap.size 39 [.int .u32 0, .bool false, .int .i64 0, .int .i64 0, .int .i64 0, .int .i64 0] ∧ Below w.heap.size w V) := ⟨HW.out.1.go bV, Below.chain HW.out.2 bV⟩
  clear HW bV hh
  go_wp2_with (refine wpList_store_any rfl 39 (.tmp 2) (.tmp 44) rfl w.heap.size rfl [.int .u32 16, .bool true, .int .i64 24, .int .i64 8, .int .i64 26, .int .i64 0] rfl 39 _ HV.out.1 info_ots rfl oneCell6 ?_)
  intro Z hr bt _
  have F : Shh (Row Z w.heap.size 39 [.int .u32 16, .bool true, .int .i64 24, .int .i64 8, .int .i64 26, .int .i64 0] ∧ Below w.heap.size w Z) := ⟨hr, HV.out.2.trans (bt.under HV.out.2.size (Nat.le_refl _))⟩
  clear hr bt HV
  go_wp2
  exact ret_rs Try.results43 rfl rfl rfl F.out.1 Try.underlying39 rfl info_ots ⟨rfl, F.out.2⟩
theorem ots_any (c : Nat) (w : World) : Calls Try.prog 43 #[.int .u32 (c : Int)] w (OldIs (.tuple #[otsV c, .int .i64 (oE c)]) w) := by
  by_cases h : c < 1 ∨ 16 < c
  · exact ots_none c h w
  · have : c = 1 ∨ c = 2 ∨ c = 3 ∨ c = 4 ∨ c = 5 ∨ c = 6 ∨ c = 7 ∨ c = 8 ∨ c = 9 ∨ c = 10 ∨ c = 11 ∨ c = 12 ∨ c = 13 ∨ c = 14 ∨ c = 15 ∨ c = 16 := by omega
    rcases this with rfl | rfl | rfl | rfl | rfl | rfl | rfl | rfl | rfl | rfl | rfl | rfl | rfl | rfl | rfl | rfl
    · exact ots_1 w
    · exact ots_2 w
    · exact ots_3 w
    · exact ots_4 w
    · exact ots_5 w
    · exact ots_6 w
    · exact ots_7 w
    · exact ots_8 w
    · exact ots_9 w
    · exact ots_10 w
    · exact ots_11 w
    · exact ots_12 w
    · exact ots_13 w
    · exact ots_14 w
    · exact ots_15 w
    · exact ots_16 w
end Go.Proofs.Ythahnckjmlcehaa
