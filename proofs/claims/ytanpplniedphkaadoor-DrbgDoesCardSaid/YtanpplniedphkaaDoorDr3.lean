/-
  WALKS: bytes drawn from a state; the first state.
-/
import Derived.Test.YtanpplniedphkaaDoorDr2
import Derived.Test.YtanpplniedphkaaDoorCovW
namespace Go.Proofs.YtanpplniedphkaaDoor
open Go.RowKit
set_option maxRecDepth 100000

theorem results_slot_cell {P : Program} {fn : Func} {q p : Tmp} {ty : TypeId} (h : fn.results = #[.tmp q, .cell p ty]) (tmps : Array Value) (w : World) (g : Nat) (t : TypeId) (cs : List Value) (d : TypeDesc) (v : Value)
    (hq : tmps.getD q undef = v) (hp : tmps.getD p undef = .pointer (some ⟨g, 0, none⟩)) (hg : Row w g t cs)
    (hu : P.underlying ty = some d) (hd : (match d with | .struct _ | .array _ _ => true | _ => false) = true) (hi : (P.info? ty).map (·.size) = some cs.length) :
    (results fn tmps).run P w = .ok (.tuple #[v, .agg cs.toArray]) w := by
  have hp' : tmps[p]?.getD undef = .pointer (some ⟨g, 0, none⟩) := by simpa using hp
  have hq' : tmps[q]?.getD undef = v := by simpa using hq
  simp [results, h, hp', hq', asAddr, run_loadVar_row w g t ty cs.toArray (0, 0) d hg hu hd (by simpa using hi)]
theorem ret_slot_row {P : Program} {f : Func} {a : Act} {q p : Tmp} {ty : TypeId} {d : TypeDesc} {post : Ending → World → Prop} {w : World} {g : Nat} {T : TypeId} {cs : List Value} {v : Value} (hf : f.results = #[.tmp q, .cell p ty]) (hdf : a.defers = []) (hq : a.tmps.getD q undef = v) (hp : a.tmps.getD p undef = .pointer (some ⟨g, 0, none⟩)) (hr : Row w g T cs)
    (hu : P.underlying ty = some d) (hd : (match d with | .struct _ | .array _ _ => true | _ => false) = true) (hi : (P.info? ty).map (·.size) = some cs.length) (h : post (.returned (.tuple #[v, .agg cs.toArray])) w) : bodyPost P f post .ret a w :=
  bodyPost_ret (v := .tuple #[v, .agg cs.toArray]) (results_slot_cell hf _ _ g T cs d v hq hp hr hu hd hi) hdf h
theorem run_arr32_ho (g o j : Nat) (hj : j ≤ 32) (w : World) : (Instr.sliceAt 79 (.pointer (some ⟨g, o, none⟩)) none (some (.int .i64 (j : Int))) none).run Tryd.prog w = .ok (.slice (some ⟨g, o, none⟩) j 32) w := by
  have hA : Tryd.prog.arrayLen 79 = 32 := by kernel_rfl
  have hE : Tryd.prog.elem 79 = 5 := by kernel_rfl
  have hu : Tryd.prog.underlying 79 = some (.array (Tryd.prog.arrayLen 79) (Tryd.prog.elem 79)) := by kernel_rfl
  rw [run_sliceAt_array_h w 79 ⟨g, o, none⟩ hu .i64 (j : Int) (by omega) (by rw [hA]; omega), hE, run_sizeOf_u8, Result.andThen_ok, hA, Int.toNat_natCast]
  simp [slicedAt, addr_add]
theorem own_but {w w' : World} {base g : Nat} {e : TypeId} {v : Value} {n : Nat} {xs : List Value} (h : w.ownsRow base e 1 v n xs) (hb : But w.heap.size g w w') (hg : g < base) : w'.ownsRow base e 1 v n xs := by
  refine ⟨h.1, ?_⟩
  rcases h.2 with h0 | ⟨k, cap, cur, hv, hk, hr, hrest⟩
  · exact .inl h0
  · exact .inr ⟨k, cap, cur, hv, hk, (hb.block k (Array.getElem?_eq_some_iff.1 hr).1 (by omega)).trans hr, hrest⟩
theorem Vars.under {w w' : World} {B : Nat} (h : Vars w) (hb : Below B w w') (hB : 1 < B) : Vars w' := fun k hk => (hb.cell (p := ⟨1, k, none⟩) hB).trans (h k hk)

/-- the state after k steps; the bytes of k steps -/
def drS (s : List UInt8) : Nat → List UInt8
  | 0 => s
  | k + 1 => stepL (drS s k)
def drO (s : List UInt8) : Nat → List UInt8
  | 0 => []
  | k + 1 => drO s k ++ valL (drS s (k + 1))
theorem drS_length (s : List UInt8) (h : s.length = 64) (k : Nat) : (drS s k).length = 64 := by
  induction k with
  | zero => exact h
  | succ k ih => exact stepL_length _ ih
theorem drO_length (s : List UInt8) (h : s.length = 64) (k : Nat) : (drO s k).length = 32 * k := by
  induction k with
  | zero => rfl
  | succ k ih => rw [drO, List.length_append, ih, valL_length _ (drS_length s h (k + 1))]; omega
def drawB (s : List UInt8) (n : Nat) : List UInt8 := (drO s (blocksN n)).take n
def drawS (s : List UInt8) (n : Nat) : List UInt8 := drS s (blocksN n)
theorem drawS_length (s : List UInt8) (h : s.length = 64) (n : Nat) : (drawS s n).length = 64 := drS_length s h _
theorem drawB_length (s : List UInt8) (h : s.length = 64) (n : Nat) : (drawB s n).length = n := by
  unfold drawB blocksN
  rw [List.length_take, drO_length s h]
  omega
/-- bytes and a state are handed back -/
def DrawIs (w : World) (bs s : List UInt8) (e : Ending) (w' : World) : Prop := ∃ v, e = .returned (.tuple #[v, .agg (Lib.byteCells s).toArray]) ∧ Gives w bs v w'

set_option maxHeartbeats 2000000 in
theorem drawn_any (s : List UInt8) (n : Nat) (w : World) (hs : s.length = 64) (hn : n ≤ 100000) (hv : Vars w) :
    Calls Tryd.prog 56 #[.agg (Lib.byteCells s).toArray, .int .i64 (n : Int)] w (DrawIs w (drawB s n) (drawS s n)) := by
  unfold DrawIs
  have hpos := hv.pos
  obtain ⟨i0, hi0, hz0, hz1, hz2⟩ := info_parts info_u8
  have hmk := make0_run n (by omega)
  generalize hN : w.heap.size = N at *
  obtain ⟨W1, hW1⟩ : ∃ W1, W1 = (w.alloc (.cells (Lib.byteCells s).toArray 81)).alloc (.cells (Lib.byteCells (List.replicate 64 0)).toArray 81) := ⟨_, rfl⟩
  have hb1 : Below N w W1 := by rw [hW1]; exact ((Below.refl N w).alloc (by omega) _).alloc (by rw [asz]; omega) _
  have hzW : W1.heap.size = N + 2 := by rw [hW1, asz, asz, hN]
  have HW : Shh (Row W1 N 81 (Lib.byteCells s) ∧ Row W1 (N + 1) 81 (Lib.byteCells (List.replicate 64 0)) ∧ Vars W1 ∧ Below N w W1 ∧ W1.heap.size = N + 2) :=
    ⟨by rw [hW1]; exact (Row.new_ hN.symm rfl).alloc _, by rw [hW1]; exact Row.new_ (by rw [asz, hN]) rfl, hv.step (by rw [hN]; exact hb1), hb1, hzW⟩
  have hB2 : ∀ o, Below (N + 2) W1 (W1.alloc o) := fun o => (Below.refl _ _).alloc (by omega) o
  have hown := World.ownsRow_made (base := N + 2) (e := 5) (size := 1) W1 (Lib.byteCells (List.replicate n 0)).toArray n (by omega) (by unfold maxLen; omega) (by simp [Lib.byteCells_length])
  rw [hzW] at hown
  have HI : Shh ((W1.alloc (.cells (Lib.byteCells (List.replicate n 0)).toArray 5)).ownsRow (N + 2) 5 1 (.slice (some ⟨N + 2, 0, none⟩) 0 n) 0 [] ∧ Row (W1.alloc (.cells (Lib.byteCells (List.replicate n 0)).toArray 5)) N 81 (Lib.byteCells s) ∧ Row (W1.alloc (.cells (Lib.byteCells (List.replicate n 0)).toArray 5)) (N + 1) 81 (Lib.byteCells (List.replicate 64 0)) ∧ Vars (W1.alloc (.cells (Lib.byteCells (List.replicate n 0)).toArray 5)) ∧ Below N w (W1.alloc (.cells (Lib.byteCells (List.replicate n 0)).toArray 5)) ∧ N + 3 ≤ (W1.alloc (.cells (Lib.byteCells (List.replicate n 0)).toArray 5)).heap.size) :=
    ⟨by simpa [Lib.byteCells] using hown, HW.out.1.below (hB2 _) (by omega), HW.out.2.1.below (hB2 _) (by omega), HW.out.2.2.1.under (hB2 _) (by omega), HW.out.2.2.2.1.trans ((hB2 _).mono (by omega)), by rw [asz, hzW]; omega⟩
  rw [hW1, ← zero64b] at HI
  clear hown hB2 HW hzW hb1 hv hW1
  go_enter Tryd.func56, Tryd.ntmps56
  go_wp2
  go_loopw [6] (fun o wr => ∃ (k q : Nat) (A : Option Addr) (c : Nat), q = min (32 * k) n ∧ o = .slice A q c ∧ Shh ((k = 0 ∨ 32 * (k - 1) < n) ∧ wr.ownsRow (N + 2) 5 1 o q (Lib.byteCells ((drO s k).take n)) ∧ Row wr N 81 (Lib.byteCells (drS s k)) ∧ Row wr (N + 1) 81 (Lib.byteCells (List.replicate 64 0)) ∧ Vars wr ∧ Below N w wr ∧ N + 3 ≤ wr.heap.size)) (fun o _ => n - slLen o)
  case atStart =>
    exact ⟨0, 0, _, _, by simp, rfl, ⟨.inl rfl, by simpa [drO, Lib.byteCells] using HI.out.1, HI.out.2⟩⟩
  case round =>
    obtain ⟨k, q, A, c, hq, rfl, H⟩ := hrel
    have hsk := drS_length s hs k
    have hsk1 := drS_length s hs (k + 1)
    by_cases hlt : q < n
    · obtain ⟨m, hm⟩ : ∃ m, m = min 32 (n - q) := ⟨_, rfl⟩
      have hm32 : m ≤ 32 := by omega
      have hqm : q + m = min (32 * (k + 1)) n := by omega
      have hqk : q = 32 * k := by omega
      have hvl := valL_length _ hsk1
      have HO : Shh ((drO s k).take n ++ (valL (drS s (k + 1))).take m = (drO s (k + 1)).take n ∧ ((drO s k).take n).length = q ∧ q + m = min (32 * (k + 1)) n ∧ (q = 32 * k ∧ 32 * k < n) ∧ ((valL (drS s (k + 1))).take m).length = m) := ⟨by
        rw [drO, List.take_append, drO_length s hs, List.take_of_length_le (show (drO s k).length ≤ n by rw [drO_length s hs]; omega)]
        congr 1
        rw [List.take_eq_take_iff, hvl]
        omega, by rw [List.length_take, drO_length s hs]; omega, hqm, ⟨hqk, by omega⟩, by rw [List.length_take, hvl]; omega⟩
      have qmin : Shh ((if (n : Int) - (q : Int) < 32 then (n : Int) - (q : Int) else 32) = (m : Int)) := ⟨by split <;> omega⟩
      have hbnd : q + m ≤ n := by omega
      clear hm hqm hqk hvl hq
      go_wp2_with (first | refine wpList_load_any rfl 81 (.tmp 2) rfl N rfl 81 (Lib.byteCells (drS s k)) _ H.out.2.2.1 Tryd.underlying81 rfl (info_st.trans (size_bytes _ _ hsk)) ?_ | (go_at_call 94; refine (stepped_any (drS s k) wr hsk H.out.2.2.2.2.1).mono ?_))
      rintro e Y ⟨rfl, bY⟩
      have H1 : Shh (Y.ownsRow (N + 2) 5 1 (.slice A q c) q (Lib.byteCells ((drO s k).take n)) ∧ Row Y N 81 (Lib.byteCells (drS s k)) ∧ Row Y (N + 1) 81 (Lib.byteCells (List.replicate 64 0)) ∧ Vars Y ∧ Below N w Y ∧ N + 3 ≤ Y.heap.size) :=
        ⟨own_step H.out.2.1 bY, H.out.2.2.1.go bY, H.out.2.2.2.1.go bY, H.out.2.2.2.2.1.go bY, H.out.2.2.2.2.2.1.trans (bY.mono (by have := H.out.2.2.2.2.2.2; omega)), by have := H.out.2.2.2.2.2.2; have := bY.size; omega⟩
      clear H bY
      go_wp2_with (refine wpList_store_any rfl 81 (.tmp 2) (.tmp 14) rfl N rfl (Lib.byteCells (stepL (drS s k))) rfl 81 (Lib.byteCells (drS s k)) H1.out.2.1 (info_st.trans (size_bytes _ _ hsk1)) (by rw [Lib.byteCells_length, Lib.byteCells_length, hsk, stepL_length _ hsk]) (cell_oneCell _) ?_)
      intro Y2 hr bt zt
      have H2 : Shh (Y2.ownsRow (N + 2) 5 1 (.slice A q c) q (Lib.byteCells ((drO s k).take n)) ∧ Row Y2 N 81 (Lib.byteCells (drS s (k + 1))) ∧ Row Y2 (N + 1) 81 (Lib.byteCells (List.replicate 64 0)) ∧ Vars Y2 ∧ Below N w Y2 ∧ N + 3 ≤ Y2.heap.size ∧ Sl Y2 Y2.heap.size (.slice (some ⟨N, 32, none⟩) m 32) ((valL (drS s (k + 1))).take m)) :=
        ⟨own_but H1.out.1 bt (by omega), hr, bt.row H1.out.2.2.1 (by have := H1.out.2.2.2.2.2; omega) (by omega), H1.out.2.2.2.1.but bt (by omega), H1.out.2.2.2.2.1.trans (bt.under (by have := H1.out.2.2.2.2.2; omega) (by omega)), by have := H1.out.2.2.2.2.2; omega,
          (Row.sub (s := drS s (k + 1)) hr 32 32 (by omega) (by omega)).begins m (by show m ≤ (valL (drS s (k + 1))).length; rw [valL_length _ hsk1]; omega)⟩
      clear H1 hr bt zt
      have hsl := run_arr32_ho N 32 m hm32 Y2
      go_wp2_with (first | refine wpList_min rfl (.const (.int .i64 32)) (.tmp 20) 3 3 rfl 32 ((n : Int) - (q : Int)) (m : Int) rfl rfl qmin.out ?_ | (at_builtin; refine wp_appendSl _ 22 5 i0 Tryd.underlying22 hi0 hz0 hz1 hz2 rfl _ _ rfl (own_len H2.out.1 HO.out.2.1.symm) H2.out.2.2.2.2.2.2 rfl rfl (by have := HO.out.2.1; have := HO.out.2.2.2.2; omega) (by have := H2.out.2.2.2.2.2.1; omega) ?_))
      intro v' Y3 hown5 _ hb5
      rw [HO.out.1] at hown5
      have hown6 := own_len hown5 (show _ = min (32 * (k + 1)) n by have := HO.out.2.1; have := HO.out.2.2.1; have := HO.out.2.2.2.2; have := drO_length s hs k; have := valL_length _ hsk1; have := HO.out.2.2.2.1.1; first | omega | (simp only [List.length_take] at *; omega))
      obtain ⟨A5, c5, rfl⟩ := own_form hown6
      have b2 := hb5 (N + 2) (Nat.le_refl _)
      have H3 : Shh ((k + 1 = 0 ∨ 32 * (k + 1 - 1) < n) ∧ Y3.ownsRow (N + 2) 5 1 (.slice A5 (min (32 * (k + 1)) n) c5) (min (32 * (k + 1)) n) (Lib.byteCells ((drO s (k + 1)).take n)) ∧ Row Y3 N 81 (Lib.byteCells (drS s (k + 1))) ∧ Row Y3 (N + 1) 81 (Lib.byteCells (List.replicate 64 0)) ∧ Vars Y3 ∧ Below N w Y3 ∧ N + 3 ≤ Y3.heap.size) :=
        ⟨.inr (by have := HO.out.2.2.2.1.2; omega), hown6, H2.out.2.1.below b2 (by omega), H2.out.2.2.1.below b2 (by omega), H2.out.2.2.2.1.under b2 (by omega), H2.out.2.2.2.2.1.trans (b2.mono (by omega)), by have := H2.out.2.2.2.2.2.1; have := b2.size; omega⟩
      clear hown5 hown6 hb5 b2 H2 hsl
      go_wp2
      go_roundw
      case rel => exact ⟨k + 1, _, _, _, rfl, rfl, H3⟩
      case measure => simp [slLen]; have := HO.out.2.2.1; have := HO.out.2.2.2.1.1; omega
    · have hqn : q = n := by omega
      have HK : Shh (k = blocksN n) := ⟨by have := H.out.1; unfold blocksN; omega⟩
      have HE : Shh (wr.ownsRow (N + 2) 5 1 (.slice A q c) (drawB s n).length (Lib.byteCells (drawB s n)) ∧ Row wr N 81 (Lib.byteCells (drawS s n)) ∧ Row wr (N + 1) 81 (Lib.byteCells (List.replicate 64 0)) ∧ Below N w wr ∧ N + 3 ≤ wr.heap.size) := ⟨by
        unfold drawB
        rw [← HK.out]
        exact own_len H.out.2.1 (by rw [List.length_take, drO_length s hs]; omega), by unfold drawS; rw [← HK.out]; exact H.out.2.2.1, H.out.2.2.2.1, H.out.2.2.2.2.2⟩
      have hge : n ≤ q := by omega
      have hds := drawS_length s hs n
      have HD : Shh (wr.drew.ownsRow (N + 2) 5 1 (.slice A q c) (drawB s n).length (Lib.byteCells (drawB s n)) ∧ Row wr.drew N 81 (Lib.byteCells (drawS s n)) ∧ Row wr.drew (N + 1) 81 (Lib.byteCells (List.replicate 64 0)) ∧ Below N w wr.drew ∧ N + 3 ≤ wr.drew.heap.size) :=
        ⟨World.ownsRow.drew HE.out.1, HE.out.2.1, HE.out.2.2.1, HE.out.2.2.2.1.drew, HE.out.2.2.2.2⟩
      clear H hq hqn HK HE hsk hsk1
      go_wp2
      refine wp_region_held_drew (S := fun w' => w'.rangeAt N 0 (Lib.byteCells (drawS s n))) (by kernel_rfl) HD.out.2.1.range (fun hS => ?_)
      clear hS
      generalize wr.drew = W at HD ⊢
      obtain ⟨HOW, rB, rR, HBW, hzW⟩ := HD.out
      refine held_value 0 _ _ (some 24) (.slice A q c) (by kernel_rfl) (by rfl) (by kernel_rfl) (fun w hS => by first | kernel_rfl | go_simp) (fun _ _ _ _ h => h) ((rB).range) ?_
      simp only [Act.put, List.setIfInBounds_toArray, List.set_cons_zero, List.set_cons_succ]
      refine held_load 1 81 (.tmp 2) (some 25) (by kernel_rfl) (by rfl) (by kernel_rfl) N 0 (by kernel_rfl) (Lib.byteCells (drawS s n)) _ (fun w h => h) Tryd.underlying81 rfl (info_st.trans (size_bytes _ _ hds)) (fun _ _ _ _ h => h) ((rB).range) ?_
      simp only [Act.put, List.setIfInBounds_toArray, List.set_cons_zero, List.set_cons_succ]
      refine held_value 2 _ _ (some 4) (.slice A q c) (by kernel_rfl) (by rfl) (by kernel_rfl) (fun w hS => by first | kernel_rfl | go_simp) (fun _ _ _ _ h => h) ((rB).range) ?_
      simp only [Act.put, List.setIfInBounds_toArray, List.set_cons_zero, List.set_cons_succ]
      refine held_one 3 (by kernel_rfl) ?_
      refine step_storeRow 3 81 (.tmp 5) (.tmp 25) (by rfl) (by kernel_rfl) (_) rfl (Lib.byteCells (drawS s n)) rfl 81 (Lib.byteCells (List.replicate 64 0)) rR (info_st.trans (size_bytes _ _ hds)) (by rw [Lib.byteCells_length, Lib.byteCells_length, hds]; rfl) (cell_oneCell _) ?_
      intro Y1 rS bt zt
      refine ⟨(bt.row rB (by omega) (by omega)).range, ?_⟩
      refine wpAnyH_done (by kernel_rfl) ?_ _
      have F : Shh (Row Y1 (N + 1) 81 (Lib.byteCells (drawS s n)) ∧ Y1.ownsRow N 5 1 (.slice A q c) (drawB s n).length (Lib.byteCells (drawB s n)) ∧ Below N w Y1) := ⟨rS, own_base (own_but HOW bt (by omega)) (by omega), HBW.trans (bt.under (by omega) (by omega))⟩
      clear zt bt rS rB rR HOW HBW HD
      go_wp2
      exact ret_slot_row Tryd.results56 rfl rfl rfl F.out.1 Tryd.underlying81 rfl (info_st.trans (size_bytes _ _ hds)) ⟨_, rfl, by unfold Gives; rw [hN]; exact F.out.2⟩
end Go.Proofs.YtanpplniedphkaaDoor
