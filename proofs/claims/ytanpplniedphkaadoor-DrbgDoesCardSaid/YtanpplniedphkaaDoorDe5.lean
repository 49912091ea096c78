/-
  WALKS: the document's own Draw, refused.
-/
import Derived.Test.YtanpplniedphkaaDoorDe4
namespace Go.Proofs.YtanpplniedphkaaDoor
open Go.RowKit
set_option maxRecDepth 100000
/-- bytes, the document's generator, and an error are handed back -/
def RDrawIs (w : World) (K : Nat → Prop) (bs s : List UInt8) (c er : Int) (e : Ending) (w' : World) : Prop := ∃ v x, e = .returned (.tuple #[v, x, .int .i64 er]) ∧ Sl w' w'.heap.size v bs ∧ RSt w' x s c ∧ Below w.heap.size w w' ∧ ∀ g, g < w.heap.size → Off g v ∧ (K g → OffR g x)
theorem results_three {P : Program} {fn : Func} {q p r : Tmp} {ty : TypeId} (h : fn.results = #[.tmp q, .cell p ty, .tmp r]) (tmps : Array Value) (w : World) (g : Nat) (t : TypeId) (cs : List Value) (d : TypeDesc) (v u : Value)
    (hq : tmps.getD q undef = v) (hr : tmps.getD r undef = u) (hp : tmps.getD p undef = .pointer (some ⟨g, 0, none⟩)) (hg : Row w g t cs)
    (hu : P.underlying ty = some d) (hd : (match d with | .struct _ | .array _ _ => true | _ => false) = true) (hi : (P.info? ty).map (·.size) = some cs.length) :
    (results fn tmps).run P w = .ok (.tuple #[v, .agg cs.toArray, u]) w := by
  have hp' : tmps[p]?.getD undef = .pointer (some ⟨g, 0, none⟩) := by simpa using hp
  have hq' : tmps[q]?.getD undef = v := by simpa using hq
  have hr' : tmps[r]?.getD undef = u := by simpa using hr
  simp [results, h, hp', hq', hr', asAddr, run_loadVar_row w g t ty cs.toArray (0, 0) d hg hu hd (by simpa using hi)]
theorem ret_three {P : Program} {f : Func} {a : Act} {q p r : Tmp} {ty : TypeId} {d : TypeDesc} {post : Ending → World → Prop} {w : World} {g : Nat} {T : TypeId} {cs : List Value} {v u : Value} (hf : f.results = #[.tmp q, .cell p ty, .tmp r]) (hdf : a.defers = []) (hq : a.tmps.getD q undef = v) (hr : a.tmps.getD r undef = u) (hp : a.tmps.getD p undef = .pointer (some ⟨g, 0, none⟩)) (hg : Row w g T cs)
    (hu : P.underlying ty = some d) (hd : (match d with | .struct _ | .array _ _ => true | _ => false) = true) (hi : (P.info? ty).map (·.size) = some cs.length) (h : post (.returned (.tuple #[v, .agg cs.toArray, u])) w) : bodyPost P f post .ret a w :=
  bodyPost_ret (v := .tuple #[v, .agg cs.toArray, u]) (results_three hf _ _ g T cs d v u hq hr hp hg hu hd hi) hdf h
set_option maxHeartbeats 4000000 in
theorem refDraw_bad (c : Nat) (n : Int) (x va : Value) (ad s : List UInt8) (w : World) (hx : RSt w x s (c : Int)) (ha : Sl w w.heap.size va ad) (hf : drawE n ad c ≠ 0) :
    Calls Tryd.prog 59 #[x, .int .i64 n, va] w (RDrawIs w (fun g => OffR g x) [] s (c : Int) (drawE n ad c)) := by
  unfold RDrawIs
  obtain ⟨vk, vv, rfl, hk, hv⟩ := hx
  obtain ⟨A2, c2, rfl, _, _⟩ := ha.form
  obtain ⟨kB, hkB⟩ : ∃ kB, kB = keyL s := ⟨_, rfl⟩
  obtain ⟨vB, hvB⟩ : ∃ vB, vB = valL s := ⟨_, rfl⟩
  have HKV : Shh (kB = keyL s ∧ vB = valL s) := ⟨hkB, hvB⟩
  rw [← hkB] at hk
  rw [← hvB] at hv
  clear hkB hvB
  obtain ⟨Ak, ck, rfl, _, _⟩ := hk.form
  obtain ⟨Av, cv, rfl, _, _⟩ := hv.form
  obtain ⟨N, hN⟩ : ∃ N, w.heap.size = N := ⟨_, rfl⟩
  obtain ⟨W0, hW0⟩ : ∃ W0, W0 = w.alloc (.cells #[.slice Ak kB.length ck, .slice Av vB.length cv, .int .i64 (c : Int)] 33) := ⟨_, rfl⟩
  have b0 : Below w.heap.size w W0 := by rw [hW0]; exact below1 _ _
  have z0 : W0.heap.size = N + 1 := by rw [hW0, asz, hN]
  obtain ⟨W, hW⟩ : ∃ W, W = W0.alloc (.cells #[.slice none 0 0, .slice none 0 0, .int .i64 0] 33) := ⟨_, rfl⟩
  have b1 : Below W0.heap.size W0 W := by rw [hW]; exact below1 _ _
  have bb := Below.chain b0 b1
  have HC : Shh (Sl W W.heap.size (.slice A2 ad.length c2) ad ∧ Row W N 33 [.slice Ak kB.length ck, .slice Av vB.length cv, .int .i64 (c : Int)] ∧ Row W (N + 1) 33 [.slice none 0 0, .slice none 0 0, .int .i64 0] ∧ Sl W N (.slice Ak kB.length ck) kB ∧ Sl W N (.slice Av vB.length cv) vB ∧ Below N w W ∧ N + 2 ≤ W.heap.size) :=
    ⟨ha.go bb, by rw [hW, hW0]; exact (Row.new_ hN.symm rfl).alloc _, by rw [hW]; exact Row.new_ z0.symm rfl, by rw [← hN]; exact hk.below bb, by rw [← hN]; exact hv.below bb, by rw [← hN]; exact bb, by rw [hW, asz, z0]; omega⟩
  clear hk hv ha b0 b1 bb z0
  by_cases h1 : n < 0
  · have HE : Shh (drawE n ad c = 1) := ⟨by unfold drawE; rw [if_pos h1]⟩
    rw [HE.out]
    clear hf
    rw [hW, hW0] at HC
    go_enter Tryd.func59, Tryd.ntmps59
    have cN := HC.out.2.1.cell 2
    simp only [List.getElem?_cons_succ, List.getElem?_cons_zero] at cN
    go_wp2
    rw [← hW0, ← hW] at HC ⊢
    refine wp_region_held_drew (S := fun _ => True) (by kernel_rfl) trivial (fun hS => ?_)
    have HV : Shh (Row W.drew N 33 [.slice Ak kB.length ck, .slice Av vB.length cv, .int .i64 (c : Int)] ∧ Row W.drew (N + 1) 33 [.slice none 0 0, .slice none 0 0, .int .i64 0] ∧ Sl W.drew N (.slice Ak kB.length ck) kB ∧ Sl W.drew N (.slice Av vB.length cv) vB ∧ Below N w W.drew ∧ N + 2 ≤ W.drew.heap.size) := ⟨HC.out.2.1.drew, HC.out.2.2.1.drew, HC.out.2.2.2.1, HC.out.2.2.2.2.1, HC.out.2.2.2.2.2.1.drew, HC.out.2.2.2.2.2.2⟩
    clear HC hW hW0 cN
    generalize World.drew _ = V at HV ⊢
    have rB := HV.out.1
    have rZ := HV.out.2.1
    refine held_value 1 _ _ (some 6) (.slice none 0 0) (by kernel_rfl) (by rfl) (by kernel_rfl) (fun w hS => by first | kernel_rfl | go_simp) (fun _ _ _ _ h => h) (trivial) ?_
    simp only [Act.put, List.setIfInBounds_toArray, List.set_cons_zero, List.set_cons_succ]
    refine held_one 0 (by kernel_rfl) ?_
    refine step_value 0 _ _ (some 12) (.agg #[.slice Ak kB.length ck, .slice Av vB.length cv, .int .i64 (c : Int)]) V (by rfl) (by kernel_rfl) (run_loadRow rfl rB Tryd.underlying33 rfl info_rd) (trivial) ?_
    simp only [Act.put, List.setIfInBounds_toArray, List.set_cons_zero, List.set_cons_succ]
    refine held_one 2 (by kernel_rfl) ?_
    refine step_storeRow 2 33 (.tmp 7) (.tmp 12) (by rfl) (by kernel_rfl) (_) rfl ([.slice Ak kB.length ck, .slice Av vB.length cv, .int .i64 (c : Int)]) rfl 33 ([.slice none 0 0, .slice none 0 0, .int .i64 0]) rZ (info_rd) (rfl) cell_slices ?_
    intro Y2 rS bt zt
    refine ⟨trivial, ?_⟩
    refine held_value 3 _ _ (some 8) (.int .i64 1) (by kernel_rfl) (by rfl) (by kernel_rfl) (fun w hS => by first | kernel_rfl | go_simp) (fun _ _ _ _ h => h) (trivial) ?_
    simp only [Act.put, List.setIfInBounds_toArray, List.set_cons_zero, List.set_cons_succ]
    refine wpAnyH_done (by kernel_rfl) ?_ _
    have F : Shh (Row Y2 (N + 1) 33 [.slice Ak kB.length ck, .slice Av vB.length cv, .int .i64 (c : Int)] ∧ Sl Y2 Y2.heap.size (.slice Ak kB.length ck) (keyL s) ∧ Sl Y2 Y2.heap.size (.slice Av vB.length cv) (valL s) ∧ Below w.heap.size w Y2) := ⟨rS, by rw [← HKV.out.1]; exact (HV.out.2.2.1.below (bt.under (by have := HV.out.2.2.2.2.2; omega) (by omega))).more (by have := HV.out.2.2.2.2.2; have := bt.size; omega), by rw [← HKV.out.2]; exact (HV.out.2.2.2.1.below (bt.under (by have := HV.out.2.2.2.2.2; omega) (by omega))).more (by have := HV.out.2.2.2.2.2; have := bt.size; omega), by rw [hN]; exact HV.out.2.2.2.2.1.trans (bt.under (by have := HV.out.2.2.2.2.2; omega) (by omega))⟩
    clear zt bt rS rB rZ hS HV
    go_wp2
    exact ret_three Tryd.results59 rfl rfl rfl rfl F.out.1 Tryd.underlying33 rfl info_rd ⟨_, _, rfl, Sl.nil_, ⟨_, _, rfl, F.out.2.1, F.out.2.2.1⟩, F.out.2.2.2, fun _ _ => ⟨Off.nil_, fun h => h⟩⟩
  · by_cases h3 : 65536 < n
    · have HE : Shh (drawE n ad c = 3) := ⟨by unfold drawE longB; rw [if_neg h1, if_pos h3]⟩
      rw [HE.out]
      clear hf
      rw [hW, hW0] at HC
      go_enter Tryd.func59, Tryd.ntmps59
      have cN := HC.out.2.1.cell 2
      simp only [List.getElem?_cons_succ, List.getElem?_cons_zero] at cN
      go_wp2
      rw [← hW0, ← hW] at HC ⊢
      refine wp_region_held_drew (S := fun _ => True) (by kernel_rfl) trivial (fun hS => ?_)
      have HV : Shh (Row W.drew N 33 [.slice Ak kB.length ck, .slice Av vB.length cv, .int .i64 (c : Int)] ∧ Row W.drew (N + 1) 33 [.slice none 0 0, .slice none 0 0, .int .i64 0] ∧ Sl W.drew N (.slice Ak kB.length ck) kB ∧ Sl W.drew N (.slice Av vB.length cv) vB ∧ Below N w W.drew ∧ N + 2 ≤ W.drew.heap.size) := ⟨HC.out.2.1.drew, HC.out.2.2.1.drew, HC.out.2.2.2.1, HC.out.2.2.2.2.1, HC.out.2.2.2.2.2.1.drew, HC.out.2.2.2.2.2.2⟩
      clear HC hW hW0 cN
      generalize World.drew _ = V at HV ⊢
      have rB := HV.out.1
      have rZ := HV.out.2.1
      refine held_value 1 _ _ (some 6) (.slice none 0 0) (by kernel_rfl) (by rfl) (by kernel_rfl) (fun w hS => by first | kernel_rfl | go_simp) (fun _ _ _ _ h => h) (trivial) ?_
      simp only [Act.put, List.setIfInBounds_toArray, List.set_cons_zero, List.set_cons_succ]
      refine held_one 0 (by kernel_rfl) ?_
      refine step_value 0 _ _ (some 20) (.agg #[.slice Ak kB.length ck, .slice Av vB.length cv, .int .i64 (c : Int)]) V (by rfl) (by kernel_rfl) (run_loadRow rfl rB Tryd.underlying33 rfl info_rd) (trivial) ?_
      simp only [Act.put, List.setIfInBounds_toArray, List.set_cons_zero, List.set_cons_succ]
      refine held_one 2 (by kernel_rfl) ?_
      refine step_storeRow 2 33 (.tmp 7) (.tmp 20) (by rfl) (by kernel_rfl) (_) rfl ([.slice Ak kB.length ck, .slice Av vB.length cv, .int .i64 (c : Int)]) rfl 33 ([.slice none 0 0, .slice none 0 0, .int .i64 0]) rZ (info_rd) (rfl) cell_slices ?_
      intro Y2 rS bt zt
      refine ⟨trivial, ?_⟩
      refine held_value 3 _ _ (some 8) (.int .i64 3) (by kernel_rfl) (by rfl) (by kernel_rfl) (fun w hS => by first | kernel_rfl | go_simp) (fun _ _ _ _ h => h) (trivial) ?_
      simp only [Act.put, List.setIfInBounds_toArray, List.set_cons_zero, List.set_cons_succ]
      refine wpAnyH_done (by kernel_rfl) ?_ _
      have F : Shh (Row Y2 (N + 1) 33 [.slice Ak kB.length ck, .slice Av vB.length cv, .int .i64 (c : Int)] ∧ Sl Y2 Y2.heap.size (.slice Ak kB.length ck) (keyL s) ∧ Sl Y2 Y2.heap.size (.slice Av vB.length cv) (valL s) ∧ Below w.heap.size w Y2) := ⟨rS, by rw [← HKV.out.1]; exact (HV.out.2.2.1.below (bt.under (by have := HV.out.2.2.2.2.2; omega) (by omega))).more (by have := HV.out.2.2.2.2.2; have := bt.size; omega), by rw [← HKV.out.2]; exact (HV.out.2.2.2.1.below (bt.under (by have := HV.out.2.2.2.2.2; omega) (by omega))).more (by have := HV.out.2.2.2.2.2; have := bt.size; omega), by rw [hN]; exact HV.out.2.2.2.2.1.trans (bt.under (by have := HV.out.2.2.2.2.2; omega) (by omega))⟩
      clear zt bt rS rB rZ hS HV
      go_wp2
      exact ret_three Tryd.results59 rfl rfl rfl rfl F.out.1 Tryd.underlying33 rfl info_rd ⟨_, _, rfl, Sl.nil_, ⟨_, _, rfl, F.out.2.1, F.out.2.2.1⟩, F.out.2.2.2, fun _ _ => ⟨Off.nil_, fun h => h⟩⟩
    · by_cases h4 : 4096 < ad.length
      · have HE : Shh (drawE n ad c = 3) := ⟨by unfold drawE longB; rw [if_neg h1, if_neg h3, if_pos (by simpa using h4)]⟩
        have h4i : (4096 : Int) < (ad.length : Int) := by omega
        rw [HE.out]
        clear hf
        rw [hW, hW0] at HC
        go_enter Tryd.func59, Tryd.ntmps59
        have cN := HC.out.2.1.cell 2
        simp only [List.getElem?_cons_succ, List.getElem?_cons_zero] at cN
        go_wp2
        rw [← hW0, ← hW] at HC ⊢
        refine wp_region_held_drew (S := fun _ => True) (by kernel_rfl) trivial (fun hS => ?_)
        have HV : Shh (Row W.drew N 33 [.slice Ak kB.length ck, .slice Av vB.length cv, .int .i64 (c : Int)] ∧ Row W.drew (N + 1) 33 [.slice none 0 0, .slice none 0 0, .int .i64 0] ∧ Sl W.drew N (.slice Ak kB.length ck) kB ∧ Sl W.drew N (.slice Av vB.length cv) vB ∧ Below N w W.drew ∧ N + 2 ≤ W.drew.heap.size) := ⟨HC.out.2.1.drew, HC.out.2.2.1.drew, HC.out.2.2.2.1, HC.out.2.2.2.2.1, HC.out.2.2.2.2.2.1.drew, HC.out.2.2.2.2.2.2⟩
        clear HC hW hW0 cN
        generalize World.drew _ = V at HV ⊢
        have rB := HV.out.1
        have rZ := HV.out.2.1
        refine held_value 1 _ _ (some 6) (.slice none 0 0) (by kernel_rfl) (by rfl) (by kernel_rfl) (fun w hS => by first | kernel_rfl | go_simp) (fun _ _ _ _ h => h) (trivial) ?_
        simp only [Act.put, List.setIfInBounds_toArray, List.set_cons_zero, List.set_cons_succ]
        refine held_one 0 (by kernel_rfl) ?_
        refine step_value 0 _ _ (some 20) (.agg #[.slice Ak kB.length ck, .slice Av vB.length cv, .int .i64 (c : Int)]) V (by rfl) (by kernel_rfl) (run_loadRow rfl rB Tryd.underlying33 rfl info_rd) (trivial) ?_
        simp only [Act.put, List.setIfInBounds_toArray, List.set_cons_zero, List.set_cons_succ]
        refine held_one 2 (by kernel_rfl) ?_
        refine step_storeRow 2 33 (.tmp 7) (.tmp 20) (by rfl) (by kernel_rfl) (_) rfl ([.slice Ak kB.length ck, .slice Av vB.length cv, .int .i64 (c : Int)]) rfl 33 ([.slice none 0 0, .slice none 0 0, .int .i64 0]) rZ (info_rd) (rfl) cell_slices ?_
        intro Y2 rS bt zt
        refine ⟨trivial, ?_⟩
        refine held_value 3 _ _ (some 8) (.int .i64 3) (by kernel_rfl) (by rfl) (by kernel_rfl) (fun w hS => by first | kernel_rfl | go_simp) (fun _ _ _ _ h => h) (trivial) ?_
        simp only [Act.put, List.setIfInBounds_toArray, List.set_cons_zero, List.set_cons_succ]
        refine wpAnyH_done (by kernel_rfl) ?_ _
        have F : Shh (Row Y2 (N + 1) 33 [.slice Ak kB.length ck, .slice Av vB.length cv, .int .i64 (c : Int)] ∧ Sl Y2 Y2.heap.size (.slice Ak kB.length ck) (keyL s) ∧ Sl Y2 Y2.heap.size (.slice Av vB.length cv) (valL s) ∧ Below w.heap.size w Y2) := ⟨rS, by rw [← HKV.out.1]; exact (HV.out.2.2.1.below (bt.under (by have := HV.out.2.2.2.2.2; omega) (by omega))).more (by have := HV.out.2.2.2.2.2; have := bt.size; omega), by rw [← HKV.out.2]; exact (HV.out.2.2.2.1.below (bt.under (by have := HV.out.2.2.2.2.2; omega) (by omega))).more (by have := HV.out.2.2.2.2.2; have := bt.size; omega), by rw [hN]; exact HV.out.2.2.2.2.1.trans (bt.under (by have := HV.out.2.2.2.2.2; omega) (by omega))⟩
        clear zt bt rS rB rZ hS HV
        go_wp2
        exact ret_three Tryd.results59 rfl rfl rfl rfl F.out.1 Tryd.underlying33 rfl info_rd ⟨_, _, rfl, Sl.nil_, ⟨_, _, rfl, F.out.2.1, F.out.2.2.1⟩, F.out.2.2.2, fun _ _ => ⟨Off.nil_, fun h => h⟩⟩
      · have h4i : ¬ (4096 : Int) < (ad.length : Int) := by omega
        have h5 : 1024 < c := by
          unfold drawE longB at hf
          rw [if_neg h1, if_neg h3, if_neg (by simpa using h4)] at hf
          by_cases hq : 1024 < c
          · exact hq
          · rw [if_neg hq] at hf; exact absurd rfl hf
        have HE : Shh (drawE n ad c = 51) := ⟨by unfold drawE longB; rw [if_neg h1, if_neg h3, if_neg (by simpa using h4), if_pos h5]⟩
        have h5i : (1024 : Int) < (c : Int) := by omega
        rw [HE.out]
        clear hf
        rw [hW, hW0] at HC
        go_enter Tryd.func59, Tryd.ntmps59
        have cN := HC.out.2.1.cell 2
        simp only [List.getElem?_cons_succ, List.getElem?_cons_zero] at cN
        go_wp2
        rw [← hW0, ← hW] at HC ⊢
        refine wp_region_held_drew (S := fun _ => True) (by kernel_rfl) trivial (fun hS => ?_)
        have HV : Shh (Row W.drew N 33 [.slice Ak kB.length ck, .slice Av vB.length cv, .int .i64 (c : Int)] ∧ Row W.drew (N + 1) 33 [.slice none 0 0, .slice none 0 0, .int .i64 0] ∧ Sl W.drew N (.slice Ak kB.length ck) kB ∧ Sl W.drew N (.slice Av vB.length cv) vB ∧ Below N w W.drew ∧ N + 2 ≤ W.drew.heap.size) := ⟨HC.out.2.1.drew, HC.out.2.2.1.drew, HC.out.2.2.2.1, HC.out.2.2.2.2.1, HC.out.2.2.2.2.2.1.drew, HC.out.2.2.2.2.2.2⟩
        clear HC hW hW0 cN
        generalize World.drew _ = V at HV ⊢
        have rB := HV.out.1
        have rZ := HV.out.2.1
        refine held_value 1 _ _ (some 6) (.slice none 0 0) (by kernel_rfl) (by rfl) (by kernel_rfl) (fun w hS => by first | kernel_rfl | go_simp) (fun _ _ _ _ h => h) (trivial) ?_
        simp only [Act.put, List.setIfInBounds_toArray, List.set_cons_zero, List.set_cons_succ]
        refine held_one 0 (by kernel_rfl) ?_
        refine step_value 0 _ _ (some 24) (.agg #[.slice Ak kB.length ck, .slice Av vB.length cv, .int .i64 (c : Int)]) V (by rfl) (by kernel_rfl) (run_loadRow rfl rB Tryd.underlying33 rfl info_rd) (trivial) ?_
        simp only [Act.put, List.setIfInBounds_toArray, List.set_cons_zero, List.set_cons_succ]
        refine held_one 2 (by kernel_rfl) ?_
        refine step_storeRow 2 33 (.tmp 7) (.tmp 24) (by rfl) (by kernel_rfl) (_) rfl ([.slice Ak kB.length ck, .slice Av vB.length cv, .int .i64 (c : Int)]) rfl 33 ([.slice none 0 0, .slice none 0 0, .int .i64 0]) rZ (info_rd) (rfl) cell_slices ?_
        intro Y2 rS bt zt
        refine ⟨trivial, ?_⟩
        refine held_value 3 _ _ (some 8) (.int .i64 51) (by kernel_rfl) (by rfl) (by kernel_rfl) (fun w hS => by first | kernel_rfl | go_simp) (fun _ _ _ _ h => h) (trivial) ?_
        simp only [Act.put, List.setIfInBounds_toArray, List.set_cons_zero, List.set_cons_succ]
        refine wpAnyH_done (by kernel_rfl) ?_ _
        have F : Shh (Row Y2 (N + 1) 33 [.slice Ak kB.length ck, .slice Av vB.length cv, .int .i64 (c : Int)] ∧ Sl Y2 Y2.heap.size (.slice Ak kB.length ck) (keyL s) ∧ Sl Y2 Y2.heap.size (.slice Av vB.length cv) (valL s) ∧ Below w.heap.size w Y2) := ⟨rS, by rw [← HKV.out.1]; exact (HV.out.2.2.1.below (bt.under (by have := HV.out.2.2.2.2.2; omega) (by omega))).more (by have := HV.out.2.2.2.2.2; have := bt.size; omega), by rw [← HKV.out.2]; exact (HV.out.2.2.2.1.below (bt.under (by have := HV.out.2.2.2.2.2; omega) (by omega))).more (by have := HV.out.2.2.2.2.2; have := bt.size; omega), by rw [hN]; exact HV.out.2.2.2.2.1.trans (bt.under (by have := HV.out.2.2.2.2.2; omega) (by omega))⟩
        clear zt bt rS rB rZ hS HV
        go_wp2
        exact ret_three Tryd.results59 rfl rfl rfl rfl F.out.1 Tryd.underlying33 rfl info_rd ⟨_, _, rfl, Sl.nil_, ⟨_, _, rfl, F.out.2.1, F.out.2.2.1⟩, F.out.2.2.2, fun _ _ => ⟨Off.nil_, fun h => h⟩⟩
end Go.Proofs.YtanpplniedphkaaDoor
