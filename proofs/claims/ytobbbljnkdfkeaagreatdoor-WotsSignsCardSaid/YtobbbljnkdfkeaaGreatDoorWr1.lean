/-
  slices.Repeat of one number: its walk.
-/
import Derived.Test.YtobbbljnkdfkeaaGreatDoorWq8
namespace Go.Proofs.YtobbbljnkdfkeaaGreatDoor
open Go.RowKit
set_option maxRecDepth 100000
/-- ints that can be read are handed back -/
def SeeI9 (w : World) (l : List Nat) (e : Ending) (w' : World) : Prop := ∃ v, e = .returned v ∧ SI w' w'.heap.size v l ∧ Below w.heap.size w w'
theorem splice_mid {α : Type} (A B C D : List α) (k : Nat) (hk : A.length = k) (h : B.length = C.length) : splice (A ++ (B ++ D)) k C = A ++ (C ++ D) := by
  subst hk
  unfold splice
  rw [List.take_left' rfl, ← List.drop_drop, List.drop_left' rfl, List.drop_left' h]
def rep9 (n L : Nat) : List Nat := List.replicate n 15 ++ List.replicate (L - n) 0
theorem rep9_splice (n m L : Nat) (h : n + m ≤ L) : splice (intCells (rep9 n L)) n (intCells (List.replicate m 15)) = intCells (rep9 (n + m) L) := by
  unfold rep9
  rw [show L - n = m + (L - (n + m)) by omega, ← List.replicate_append_replicate, ← List.replicate_append_replicate, intCells_append, intCells_append, splice_mid _ _ _ _ _ (by rw [intCells_length, List.length_replicate]) (by rw [intCells_length, intCells_length, List.length_replicate, List.length_replicate]), intCells_append, intCells_append, List.append_assoc]
theorem rep9_length (n L : Nat) (h : n ≤ L) : (rep9 n L).length = L := by
  unfold rep9
  rw [List.length_append, List.length_replicate, List.length_replicate]
  omega
theorem rep9_get (n L j : Nat) (u : Value) (_hn : n ≤ L) (h : (intCells (List.replicate n 15))[j]? = some u) : (intCells (rep9 n L))[j]? = some u := by
  have hj : j < (intCells (List.replicate n 15)).length := by
    rcases Nat.lt_or_ge j (intCells (List.replicate n 15)).length with h1 | h1
    · exact h1
    · rw [List.getElem?_eq_none h1] at h; cases h
  unfold rep9
  rw [intCells_append, List.getElem?_append_left hj]
  exact h
theorem sliceI9 : Tryz.prog.underlying 38 = some (.slice (Tryz.prog.elem 38)) := by kernel_rfl
theorem elemI9 : Tryz.prog.elem 38 = 3 := by kernel_rfl
theorem run_sizeOf_int9 (w : World) : (sizeOf 3).run Tryz.prog w = .ok 1 w := by simp [go_sem]
theorem info_ints9 : (Tryz.prog.info? 3).map (·.size) = some 1 := by kernel_rfl
theorem run_cutI9 (g n c j : Nat) (hj : j ≤ c) (w : World) : (Instr.sliceAt 38 (.slice (some ⟨g, 0, none⟩) n c) none (some (.int .i64 (j : Int))) none).run Tryz.prog w = .ok (.slice (some ⟨g, 0, none⟩) j c) w := by
  have h : (Instr.sliceAt 38 (.slice (some ⟨g, 0, none⟩) n c) none (some (.int .i64 (j : Int))) none).run Tryz.prog w = .ok (sliced (some ⟨g, 0, none⟩) 0 j c 1) w := by
    rw [run_sliceAt_slice _ _ _ _ _ _ sliceI9, run_slice_h w 38 (some ⟨g, 0, none⟩) n c sliceI9 .i64 (j : Int) (by omega) (by omega), elemI9, run_sizeOf_int9, Result.andThen_ok, Int.toNat_natCast]
  rw [h]
  unfold sliced
  simp [Addr.add]
theorem run_lowI9 (g n j : Nat) (hj : j < n) (w : World) : (Instr.sliceAt 38 (.slice (some ⟨g, 0, none⟩) n n) (some (.int .i64 (j : Int))) none none).run Tryz.prog w = .ok (.slice (some ⟨g, j, none⟩) (n - j) (n - j)) w := by
  have h : (Instr.sliceAt 38 (.slice (some ⟨g, 0, none⟩) n n) (some (.int .i64 (j : Int))) none none).run Tryz.prog w = .ok (sliced (some ⟨g, 0, none⟩) j n n 1) w := by
    rw [run_sliceAt_slice _ _ _ _ _ _ sliceI9, run_slice_l w 38 (some ⟨g, 0, none⟩) n n sliceI9 .i64 (j : Int) (by omega) (by omega), elemI9, run_sizeOf_int9, Result.andThen_ok, Int.toNat_natCast]
  rw [h]
  unfold sliced
  rw [if_neg (by omega)]
  show Result.ok (Value.slice (some (Addr.add ⟨g, 0, none⟩ (j * 1))) (n - j) (n - j)) w = _
  rw [addr_add, Nat.mul_one, Nat.zero_add]
theorem mul64_51 (w : World) : Calls Tryz.prog 55 #[.int .u64 1, .int .u64 51] w (OldIs (.tuple #[.int .u64 0, .int .u64 51]) w) := by
  unfold OldIs
  go_enter Tryz.func55, Tryz.ntmps55
  go_wp2
  go_ret2
  exact ⟨rfl, Below.refl _ _⟩
theorem mul_51 (w : World) : Calls Tryz.prog 33 #[.int .u64 1, .int .u64 51] w (OldIs (.tuple #[.int .u64 0, .int .u64 51]) w) := by
  unfold OldIs
  go_enter Tryz.func33, Tryz.ntmps33
  go_wp2_with (go_at_call 55; refine (mul64_51 w).mono ?_)
  unfold OldIs
  rintro e w2 ⟨rfl, b2⟩
  have HB := Shh.mk b2
  clear b2
  go_wp2
  go_ret2
  exact ⟨rfl, HB.out⟩
theorem makeI_51 (u : World) : (Instr.makeSlice 38 (.int .i64 51) (.int .i64 51)).run Tryz.prog u = .ok (.slice (some ⟨u.heap.size, 0, none⟩) 51 51) (u.alloc (.cells (intCells (rep9 0 51)).toArray 3)) := by kernel_rfl
set_option maxHeartbeats 2000000 in
theorem repeat_51 (g c : Nat) (w : World) (hg : g < w.heap.size) (hc : w.cell? ⟨g, 0, none⟩ = some (.int .i64 15)) (_hc1 : 1 ≤ c) :
    Calls Tryz.prog 20 #[.slice (some ⟨g, 0, none⟩) 1 c, .int .i64 51] w (SeeI9 w (List.replicate 51 15)) := by
  unfold SeeI9
  have HC : Shh (w.cell? ⟨g, 0, none⟩ = some (.int .i64 15) ∧ g < w.heap.size) := ⟨hc, hg⟩
  clear hc hg
  go_enter Tryz.func20, Tryz.ntmps20
  go_wp2_with (go_at_call 33; refine (mul_51 w).mono ?_)
  unfold OldIs
  rintro e w1 ⟨rfl, b1⟩
  have H1 : Shh (w1.cell? ⟨g, 0, none⟩ = some (.int .i64 15) ∧ g < w1.heap.size ∧ Below w.heap.size w w1) := ⟨(b1.cell (p := ⟨g, 0, none⟩) HC.out.2).trans HC.out.1, Nat.lt_of_lt_of_le HC.out.2 b1.size, b1⟩
  clear b1 HC
  obtain ⟨l0, hl0⟩ : ∃ l, Shh (l = intCells (rep9 0 51)) := ⟨_, ⟨rfl⟩⟩
  have hmk : ∀ u : World, (Instr.makeSlice 38 (.int .i64 51) (.int .i64 51)).run Tryz.prog u = .ok (.slice (some ⟨u.heap.size, 0, none⟩) 51 51) (u.alloc (.cells l0.toArray 3)) := fun u => by rw [hl0.out]; exact makeI_51 u
  obtain ⟨W2, hW2⟩ : ∃ W2, W2 = w1.alloc (.cells l0.toArray 3) := ⟨_, rfl⟩
  obtain ⟨G, hG⟩ : ∃ G, Shh (G = w1.heap.size) := ⟨_, ⟨rfl⟩⟩
  have H2 : Shh (Row W2 G 3 l0 ∧ W2.cell? ⟨g, 0, none⟩ = some (.int .i64 15) ∧ Below w.heap.size w W2 ∧ w.heap.size ≤ G) := by
    rw [hW2]
    exact ⟨Row.new_ hG.out rfl, ((below1 w1 _).cell (p := ⟨g, 0, none⟩) H1.out.2.1).trans H1.out.1, Below.chain H1.out.2.2 (below1 _ _), by rw [hG.out]; exact H1.out.2.2.size⟩
  have HSR : Shh (∀ j v, ([.int .i64 15] : List Value)[j]? = some v → W2.cell? ((⟨g, 0, none⟩ : Addr).add j) = some v) := ⟨fun j v hj => by
    match j, hj with
    | 0, hj =>
      rw [addr_add]
      cases hj
      exact H2.out.2.1
    | _ + 1, hj => simp at hj⟩
  go_wp2_with (first | (rw [← hG.out, ← hW2]; refine wpList_copy_splice rfl (.tmp 31) (.tmp 32) 38 38 rfl 3 Tryz.underlying38 info_ints9 (some ⟨G, 0, none⟩) (some ⟨g, 0, none⟩) 51 51 1 c rfl rfl G 0 l0 3 H2.out.1 [.int .i64 15] rfl (fun _ => ⟨rfl, _, rfl, HSR.out⟩) (by rw [hl0.out, intCells_length, rep9_length _ _ (Nat.zero_le _)]; decide) (by intro v hv; simp only [List.mem_cons, List.not_mem_nil, or_false] at hv; rw [hv]; rfl) w.heap.size w H2.out.2.2.1 H2.out.2.2.2 ?_))
  intro W3 hr3 hb3
  have H3 : Shh (Row W3 G 3 (intCells (rep9 1 51)) ∧ Below w.heap.size w W3) := by
    have h := hr3.out
    rw [hl0.out, show splice (intCells (rep9 0 51)) 0 [.int .i64 15] = intCells (rep9 1 51) from rep9_splice 0 1 51 (by decide)] at h
    exact ⟨h, hb3⟩
  have HG2 : Shh (w.heap.size ≤ G) := ⟨H2.out.2.2.2⟩
  clear hr3 hb3 H2 hW2 hmk hG H1 hl0 HSR
  go_wp2
  go_loopw [8] (fun i wr => ∃ n : Nat, 1 ≤ n ∧ n ≤ 51 ∧ i = .int .i64 (n : Int) ∧ Shh (Row wr G 3 (intCells (rep9 n 51)) ∧ Below w.heap.size w wr)) (fun i _ => 51 - (intOf i).toNat)
  case atStart => exact ⟨1, Nat.le_refl _, by decide, rfl, H3⟩
  case round =>
    clear H3
    obtain ⟨n, hn1, hn, rfl, HL⟩ := hrel
    by_cases hlt : n < 51
    · obtain ⟨m, hm⟩ : ∃ m, m = Nat.min n (51 - n) := ⟨_, rfl⟩
      have hm2 : 1 ≤ m ∧ n + m ≤ 51 ∧ m ≤ n := by
        rw [hm]
        exact ⟨by have : Nat.min n (51 - n) = min n (51 - n) := rfl; omega, by have : Nat.min n (51 - n) = min n (51 - n) := rfl; omega, by have : Nat.min n (51 - n) = min n (51 - n) := rfl; omega⟩
      have HM := Shh.mk hm
      clear hm
      have hsum : IntKind.i64.wrap ((n : Int) + (m : Int)) = ((n + m : Nat) : Int) := by rw [IntKind.wrap_i64]; omega
      have runL : ∀ u, (Instr.sliceAt 38 (.slice (some ⟨G, 0, none⟩) 51 51) (some (.int .i64 (n : Int))) none none).run Tryz.prog u = .ok (.slice (some ⟨G, n, none⟩) (51 - n) (51 - n)) u := fun u => run_lowI9 G 51 n hlt u
      have runH : ∀ u, (Instr.sliceAt 38 (.slice (some ⟨G, 0, none⟩) 51 51) none (some (.int .i64 (n : Int))) none).run Tryz.prog u = .ok (.slice (some ⟨G, 0, none⟩) n 51) u := fun u => run_cutI9 G 51 51 n (by omega) u
      go_wp2_with fail
      refine wp_region_held_drew (S := fun _ => True) (by kernel_rfl) trivial (fun hS => ?_)
      clear hS
      obtain ⟨V, hV⟩ : ∃ V, V = World.drew wr := ⟨_, rfl⟩
      rw [← hV]
      have rG : Row V G 3 (intCells (rep9 n 51)) := by rw [hV]; exact HL.out.1.drew
      have HBV : Below w.heap.size w V := by rw [hV]; exact HL.out.2.drew
      clear hV HL
      have hsrc : ∀ j v, (intCells (List.replicate m 15))[j]? = some v → V.cell? ((⟨G, 0, none⟩ : Addr).add j) = some v := fun j v hj => by
        obtain ⟨hj2, rfl⟩ := intCells_get _ _ _ hj
        rw [addr_add, Nat.zero_add, rG.cell]
        refine rep9_get n 51 j _ hn ?_
        rw [List.length_replicate] at hj2
        rw [intCells, List.getElem?_map, List.getElem?_eq_getElem (by rw [List.length_replicate]; omega)]
        simp
      refine held_value 0 _ _ (some 38) (.int .i64 (n : Int)) (by kernel_rfl) (by rfl) (by kernel_rfl) (fun w hS => by first | kernel_rfl | go_simp) (fun _ _ _ _ h => h) (trivial) ?_
      simp only [Act.put, List.setIfInBounds_toArray, List.set_cons_zero, List.set_cons_succ]
      refine held_value 1 _ _ (some 39) (.slice (some ⟨G, 0, none⟩) 51 51) (by kernel_rfl) (by rfl) (by kernel_rfl) (fun w hS => by first | kernel_rfl | go_simp) (fun _ _ _ _ h => h) (trivial) ?_
      simp only [Act.put, List.setIfInBounds_toArray, List.set_cons_zero, List.set_cons_succ]
      refine held_value 2 _ _ (some 40) (.int .i64 (n : Int)) (by kernel_rfl) (by rfl) (by kernel_rfl) (fun w hS => by first | kernel_rfl | go_simp) (fun _ _ _ _ h => h) (trivial) ?_
      simp only [Act.put, List.setIfInBounds_toArray, List.set_cons_zero, List.set_cons_succ]
      refine held_value 3 _ _ (some 41) (.slice (some ⟨G, n, none⟩) (51 - n) (51 - n)) (by kernel_rfl) (by rfl) (by kernel_rfl) (fun w hS => run_slice_op_lo ⟨rfl, rfl⟩ (runL w)) (fun _ _ _ _ h => h) (trivial) ?_
      simp only [Act.put, List.setIfInBounds_toArray, List.set_cons_zero, List.set_cons_succ]
      refine held_value 4 _ _ (some 42) (.slice (some ⟨G, 0, none⟩) 51 51) (by kernel_rfl) (by rfl) (by kernel_rfl) (fun w hS => by first | kernel_rfl | go_simp) (fun _ _ _ _ h => h) (trivial) ?_
      simp only [Act.put, List.setIfInBounds_toArray, List.set_cons_zero, List.set_cons_succ]
      refine held_value 5 _ _ (some 43) (.int .i64 (n : Int)) (by kernel_rfl) (by rfl) (by kernel_rfl) (fun w hS => by first | kernel_rfl | go_simp) (fun _ _ _ _ h => h) (trivial) ?_
      simp only [Act.put, List.setIfInBounds_toArray, List.set_cons_zero, List.set_cons_succ]
      refine held_value 6 _ _ (some 44) (.slice (some ⟨G, 0, none⟩) n 51) (by kernel_rfl) (by rfl) (by kernel_rfl) (fun w hS => run_slice_op ⟨rfl, rfl⟩ (runH w)) (fun _ _ _ _ h => h) (trivial) ?_
      simp only [Act.put, List.setIfInBounds_toArray, List.set_cons_zero, List.set_cons_succ]
      refine held_one 7 (by kernel_rfl) ?_
      refine step_copyS V 7 _ (some 45) (.tmp 41) (.tmp 44) 38 38 (by rfl) (by kernel_rfl) 3 Tryz.underlying38 info_ints9 (51 - n) (51 - n) n 51 ⟨G, 0, none⟩ G n rfl rfl _ 3 rG (intCells (List.replicate m 15)) (by rw [intCells_length, List.length_replicate]; exact HM.out) hsrc (by rw [intCells_length, List.length_replicate, intCells_length, rep9_length n 51 hn]; exact hm2.2.1) (intCells_one _) (fun Y1 r9 t9 z9 => ⟨trivial, ?_⟩)
      rw [rep9_splice n m 51 hm2.2.1] at r9
      have q1 : Below w.heap.size w Y1 := HBV.trans (t9.under HBV.size HG2.out)
      have hlen : goInt (intCells (List.replicate m 15)).length = .int .i64 (m : Int) := by rw [intCells_length, List.length_replicate]; rfl
      rw [hlen]
      simp only [Act.put, List.setIfInBounds_toArray, List.set_cons_zero, List.set_cons_succ]
      refine held_value 8 _ _ (some 46) (.int .i64 ((n + m : Nat) : Int)) (by kernel_rfl) (by rfl) (by kernel_rfl) (fun w hS => by go_simp) (fun _ _ _ _ h => h) (trivial) ?_
      simp only [Act.put, List.setIfInBounds_toArray, List.set_cons_zero, List.set_cons_succ]
      refine held_value 9 _ _ (some 8) (.int .i64 ((n + m : Nat) : Int)) (by kernel_rfl) (by rfl) (by kernel_rfl) (fun w hS => by first | kernel_rfl | go_simp) (fun _ _ _ _ h => h) (trivial) ?_
      simp only [Act.put, List.setIfInBounds_toArray, List.set_cons_zero, List.set_cons_succ]
      refine wpAnyH_done (by kernel_rfl) ?_ _
      have H9 : Shh (Row Y1 G 3 (intCells (rep9 (n + m) 51)) ∧ Below w.heap.size w Y1) := ⟨r9, q1⟩
      clear r9 t9 z9 q1 hlen HBV rG HM hsum runL runH hsrc
      go_wp2
      go_roundw
      case rel => exact ⟨n + m, by omega, hm2.2.1, rfl, H9⟩
      case measure => simp [intOf]; omega
    · have HN : Shh (n = 51) := ⟨by omega⟩
      have HR : Shh (SI wr wr.heap.size (.slice (some ⟨G, 0, none⟩) 51 51) (List.replicate 51 15) ∧ Below w.heap.size w wr) := by
        refine ⟨⟨_, 51, by rw [List.length_replicate], by rw [List.length_replicate]; exact Nat.le_refl _, by unfold maxLen; omega, .inr ⟨G, rfl, HL.out.1.lt, HL.out.1.lt, fun j hj => ?_⟩⟩, HL.out.2⟩
        rw [HL.out.1.cell, HN.out]
        refine rep9_get 51 51 j _ (Nat.le_refl _) ?_
        rw [intCells, List.getElem?_map, List.getElem?_eq_getElem hj]
        simp
      clear HL HN
      go_wp2
      go_ret
      exact ⟨_, rfl, HR.out⟩
theorem mul64_67 (w : World) : Calls Tryz.prog 55 #[.int .u64 1, .int .u64 67] w (OldIs (.tuple #[.int .u64 0, .int .u64 67]) w) := by
  unfold OldIs
  go_enter Tryz.func55, Tryz.ntmps55
  go_wp2
  go_ret2
  exact ⟨rfl, Below.refl _ _⟩
theorem mul_67 (w : World) : Calls Tryz.prog 33 #[.int .u64 1, .int .u64 67] w (OldIs (.tuple #[.int .u64 0, .int .u64 67]) w) := by
  unfold OldIs
  go_enter Tryz.func33, Tryz.ntmps33
  go_wp2_with (go_at_call 55; refine (mul64_67 w).mono ?_)
  unfold OldIs
  rintro e w2 ⟨rfl, b2⟩
  have HB := Shh.mk b2
  clear b2
  go_wp2
  go_ret2
  exact ⟨rfl, HB.out⟩
theorem makeI_67 (u : World) : (Instr.makeSlice 38 (.int .i64 67) (.int .i64 67)).run Tryz.prog u = .ok (.slice (some ⟨u.heap.size, 0, none⟩) 67 67) (u.alloc (.cells (intCells (rep9 0 67)).toArray 3)) := by kernel_rfl
set_option maxHeartbeats 2000000 in
theorem repeat_67 (g c : Nat) (w : World) (hg : g < w.heap.size) (hc : w.cell? ⟨g, 0, none⟩ = some (.int .i64 15)) (_hc1 : 1 ≤ c) :
    Calls Tryz.prog 20 #[.slice (some ⟨g, 0, none⟩) 1 c, .int .i64 67] w (SeeI9 w (List.replicate 67 15)) := by
  unfold SeeI9
  have HC : Shh (w.cell? ⟨g, 0, none⟩ = some (.int .i64 15) ∧ g < w.heap.size) := ⟨hc, hg⟩
  clear hc hg
  go_enter Tryz.func20, Tryz.ntmps20
  go_wp2_with (go_at_call 33; refine (mul_67 w).mono ?_)
  unfold OldIs
  rintro e w1 ⟨rfl, b1⟩
  have H1 : Shh (w1.cell? ⟨g, 0, none⟩ = some (.int .i64 15) ∧ g < w1.heap.size ∧ Below w.heap.size w w1) := ⟨(b1.cell (p := ⟨g, 0, none⟩) HC.out.2).trans HC.out.1, Nat.lt_of_lt_of_le HC.out.2 b1.size, b1⟩
  clear b1 HC
  obtain ⟨l0, hl0⟩ : ∃ l, Shh (l = intCells (rep9 0 67)) := ⟨_, ⟨rfl⟩⟩
  have hmk : ∀ u : World, (Instr.makeSlice 38 (.int .i64 67) (.int .i64 67)).run Tryz.prog u = .ok (.slice (some ⟨u.heap.size, 0, none⟩) 67 67) (u.alloc (.cells l0.toArray 3)) := fun u => by rw [hl0.out]; exact makeI_67 u
  obtain ⟨W2, hW2⟩ : ∃ W2, W2 = w1.alloc (.cells l0.toArray 3) := ⟨_, rfl⟩
  obtain ⟨G, hG⟩ : ∃ G, Shh (G = w1.heap.size) := ⟨_, ⟨rfl⟩⟩
  have H2 : Shh (Row W2 G 3 l0 ∧ W2.cell? ⟨g, 0, none⟩ = some (.int .i64 15) ∧ Below w.heap.size w W2 ∧ w.heap.size ≤ G) := by
    rw [hW2]
    exact ⟨Row.new_ hG.out rfl, ((below1 w1 _).cell (p := ⟨g, 0, none⟩) H1.out.2.1).trans H1.out.1, Below.chain H1.out.2.2 (below1 _ _), by rw [hG.out]; exact H1.out.2.2.size⟩
  have HSR : Shh (∀ j v, ([.int .i64 15] : List Value)[j]? = some v → W2.cell? ((⟨g, 0, none⟩ : Addr).add j) = some v) := ⟨fun j v hj => by
    match j, hj with
    | 0, hj =>
      rw [addr_add]
      cases hj
      exact H2.out.2.1
    | _ + 1, hj => simp at hj⟩
  go_wp2_with (first | (rw [← hG.out, ← hW2]; refine wpList_copy_splice rfl (.tmp 31) (.tmp 32) 38 38 rfl 3 Tryz.underlying38 info_ints9 (some ⟨G, 0, none⟩) (some ⟨g, 0, none⟩) 67 67 1 c rfl rfl G 0 l0 3 H2.out.1 [.int .i64 15] rfl (fun _ => ⟨rfl, _, rfl, HSR.out⟩) (by rw [hl0.out, intCells_length, rep9_length _ _ (Nat.zero_le _)]; decide) (by intro v hv; simp only [List.mem_cons, List.not_mem_nil, or_false] at hv; rw [hv]; rfl) w.heap.size w H2.out.2.2.1 H2.out.2.2.2 ?_))
  intro W3 hr3 hb3
  have H3 : Shh (Row W3 G 3 (intCells (rep9 1 67)) ∧ Below w.heap.size w W3) := by
    have h := hr3.out
    rw [hl0.out, show splice (intCells (rep9 0 67)) 0 [.int .i64 15] = intCells (rep9 1 67) from rep9_splice 0 1 67 (by decide)] at h
    exact ⟨h, hb3⟩
  have HG2 : Shh (w.heap.size ≤ G) := ⟨H2.out.2.2.2⟩
  clear hr3 hb3 H2 hW2 hmk hG H1 hl0 HSR
  go_wp2
  go_loopw [8] (fun i wr => ∃ n : Nat, 1 ≤ n ∧ n ≤ 67 ∧ i = .int .i64 (n : Int) ∧ Shh (Row wr G 3 (intCells (rep9 n 67)) ∧ Below w.heap.size w wr)) (fun i _ => 67 - (intOf i).toNat)
  case atStart => exact ⟨1, Nat.le_refl _, by decide, rfl, H3⟩
  case round =>
    clear H3
    obtain ⟨n, hn1, hn, rfl, HL⟩ := hrel
    by_cases hlt : n < 67
    · obtain ⟨m, hm⟩ : ∃ m, m = Nat.min n (67 - n) := ⟨_, rfl⟩
      have hm2 : 1 ≤ m ∧ n + m ≤ 67 ∧ m ≤ n := by
        rw [hm]
        exact ⟨by have : Nat.min n (67 - n) = min n (67 - n) := rfl; omega, by have : Nat.min n (67 - n) = min n (67 - n) := rfl; omega, by have : Nat.min n (67 - n) = min n (67 - n) := rfl; omega⟩
      have HM := Shh.mk hm
      clear hm
      have hsum : IntKind.i64.wrap ((n : Int) + (m : Int)) = ((n + m : Nat) : Int) := by rw [IntKind.wrap_i64]; omega
      have runL : ∀ u, (Instr.sliceAt 38 (.slice (some ⟨G, 0, none⟩) 67 67) (some (.int .i64 (n : Int))) none none).run Tryz.prog u = .ok (.slice (some ⟨G, n, none⟩) (67 - n) (67 - n)) u := fun u => run_lowI9 G 67 n hlt u
      have runH : ∀ u, (Instr.sliceAt 38 (.slice (some ⟨G, 0, none⟩) 67 67) none (some (.int .i64 (n : Int))) none).run Tryz.prog u = .ok (.slice (some ⟨G, 0, none⟩) n 67) u := fun u => run_cutI9 G 67 67 n (by omega) u
      go_wp2_with fail
      refine wp_region_held_drew (S := fun _ => True) (by kernel_rfl) trivial (fun hS => ?_)
      clear hS
      obtain ⟨V, hV⟩ : ∃ V, V = World.drew wr := ⟨_, rfl⟩
      rw [← hV]
      have rG : Row V G 3 (intCells (rep9 n 67)) := by rw [hV]; exact HL.out.1.drew
      have HBV : Below w.heap.size w V := by rw [hV]; exact HL.out.2.drew
      clear hV HL
      have hsrc : ∀ j v, (intCells (List.replicate m 15))[j]? = some v → V.cell? ((⟨G, 0, none⟩ : Addr).add j) = some v := fun j v hj => by
        obtain ⟨hj2, rfl⟩ := intCells_get _ _ _ hj
        rw [addr_add, Nat.zero_add, rG.cell]
        refine rep9_get n 67 j _ hn ?_
        rw [List.length_replicate] at hj2
        rw [intCells, List.getElem?_map, List.getElem?_eq_getElem (by rw [List.length_replicate]; omega)]
        simp
      refine held_value 0 _ _ (some 38) (.int .i64 (n : Int)) (by kernel_rfl) (by rfl) (by kernel_rfl) (fun w hS => by first | kernel_rfl | go_simp) (fun _ _ _ _ h => h) (trivial) ?_
      simp only [Act.put, List.setIfInBounds_toArray, List.set_cons_zero, List.set_cons_succ]
      refine held_value 1 _ _ (some 39) (.slice (some ⟨G, 0, none⟩) 67 67) (by kernel_rfl) (by rfl) (by kernel_rfl) (fun w hS => by first | kernel_rfl | go_simp) (fun _ _ _ _ h => h) (trivial) ?_
      simp only [Act.put, List.setIfInBounds_toArray, List.set_cons_zero, List.set_cons_succ]
      refine held_value 2 _ _ (some 40) (.int .i64 (n : Int)) (by kernel_rfl) (by rfl) (by kernel_rfl) (fun w hS => by first | kernel_rfl | go_simp) (fun _ _ _ _ h => h) (trivial) ?_
      simp only [Act.put, List.setIfInBounds_toArray, List.set_cons_zero, List.set_cons_succ]
      refine held_value 3 _ _ (some 41) (.slice (some ⟨G, n, none⟩) (67 - n) (67 - n)) (by kernel_rfl) (by rfl) (by kernel_rfl) (fun w hS => run_slice_op_lo ⟨rfl, rfl⟩ (runL w)) (fun _ _ _ _ h => h) (trivial) ?_
      simp only [Act.put, List.setIfInBounds_toArray, List.set_cons_zero, List.set_cons_succ]
      refine held_value 4 _ _ (some 42) (.slice (some ⟨G, 0, none⟩) 67 67) (by kernel_rfl) (by rfl) (by kernel_rfl) (fun w hS => by first | kernel_rfl | go_simp) (fun _ _ _ _ h => h) (trivial) ?_
      simp only [Act.put, List.setIfInBounds_toArray, List.set_cons_zero, List.set_cons_succ]
      refine held_value 5 _ _ (some 43) (.int .i64 (n : Int)) (by kernel_rfl) (by rfl) (by kernel_rfl) (fun w hS => by first | kernel_rfl | go_simp) (fun _ _ _ _ h => h) (trivial) ?_
      simp only [Act.put, List.setIfInBounds_toArray, List.set_cons_zero, List.set_cons_succ]
      refine held_value 6 _ _ (some 44) (.slice (some ⟨G, 0, none⟩) n 67) (by kernel_rfl) (by rfl) (by kernel_rfl) (fun w hS => run_slice_op ⟨rfl, rfl⟩ (runH w)) (fun _ _ _ _ h => h) (trivial) ?_
      simp only [Act.put, List.setIfInBounds_toArray, List.set_cons_zero, List.set_cons_succ]
      refine held_one 7 (by kernel_rfl) ?_
      refine step_copyS V 7 _ (some 45) (.tmp 41) (.tmp 44) 38 38 (by rfl) (by kernel_rfl) 3 Tryz.underlying38 info_ints9 (67 - n) (67 - n) n 67 ⟨G, 0, none⟩ G n rfl rfl _ 3 rG (intCells (List.replicate m 15)) (by rw [intCells_length, List.length_replicate]; exact HM.out) hsrc (by rw [intCells_length, List.length_replicate, intCells_length, rep9_length n 67 hn]; exact hm2.2.1) (intCells_one _) (fun Y1 r9 t9 z9 => ⟨trivial, ?_⟩)
      rw [rep9_splice n m 67 hm2.2.1] at r9
      have q1 : Below w.heap.size w Y1 := HBV.trans (t9.under HBV.size HG2.out)
      have hlen : goInt (intCells (List.replicate m 15)).length = .int .i64 (m : Int) := by rw [intCells_length, List.length_replicate]; rfl
      rw [hlen]
      simp only [Act.put, List.setIfInBounds_toArray, List.set_cons_zero, List.set_cons_succ]
      refine held_value 8 _ _ (some 46) (.int .i64 ((n + m : Nat) : Int)) (by kernel_rfl) (by rfl) (by kernel_rfl) (fun w hS => by go_simp) (fun _ _ _ _ h => h) (trivial) ?_
      simp only [Act.put, List.setIfInBounds_toArray, List.set_cons_zero, List.set_cons_succ]
      refine held_value 9 _ _ (some 8) (.int .i64 ((n + m : Nat) : Int)) (by kernel_rfl) (by rfl) (by kernel_rfl) (fun w hS => by first | kernel_rfl | go_simp) (fun _ _ _ _ h => h) (trivial) ?_
      simp only [Act.put, List.setIfInBounds_toArray, List.set_cons_zero, List.set_cons_succ]
      refine wpAnyH_done (by kernel_rfl) ?_ _
      have H9 : Shh (Row Y1 G 3 (intCells (rep9 (n + m) 67)) ∧ Below w.heap.size w Y1) := ⟨r9, q1⟩
      clear r9 t9 z9 q1 hlen HBV rG HM hsum runL runH hsrc
      go_wp2
      go_roundw
      case rel => exact ⟨n + m, by omega, hm2.2.1, rfl, H9⟩
      case measure => simp [intOf]; omega
    · have HN : Shh (n = 67) := ⟨by omega⟩
      have HR : Shh (SI wr wr.heap.size (.slice (some ⟨G, 0, none⟩) 67 67) (List.replicate 67 15) ∧ Below w.heap.size w wr) := by
        refine ⟨⟨_, 67, by rw [List.length_replicate], by rw [List.length_replicate]; exact Nat.le_refl _, by unfold maxLen; omega, .inr ⟨G, rfl, HL.out.1.lt, HL.out.1.lt, fun j hj => ?_⟩⟩, HL.out.2⟩
        rw [HL.out.1.cell, HN.out]
        refine rep9_get 67 67 j _ (Nat.le_refl _) ?_
        rw [intCells, List.getElem?_map, List.getElem?_eq_getElem hj]
        simp
      clear HL HN
      go_wp2
      go_ret
      exact ⟨_, rfl, HR.out⟩
end Go.Proofs.YtobbbljnkdfkeaaGreatDoor
