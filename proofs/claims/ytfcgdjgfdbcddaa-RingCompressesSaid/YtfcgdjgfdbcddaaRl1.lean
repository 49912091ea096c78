/-
 THE LAWS OF CHAPTER 13 over contracts of the program's own functions: RingPairs, RingSums, RingNtts.
-/
import Derived.Test.YtfcgdjgfdbcddaaRr4
import Derived.Test.YtfcgdjgfdbcddaaRr5
import Derived.Test.YtfcgdjgfdbcddaaRr6
import Derived.Test.YtfcgdjgfdbcddaaMC
import Derived.Test.YtfcgdjgfdbcddaaCov0
namespace Go.Proofs.Ytfcgdjgfdbcddaa
open Go.RowKit
set_option maxRecDepth 100000
theorem eq_poly (p : Nat → Nat) (hp : ∀ i, i < 256 → p i < 65536) (w : World) : (Op.equalIn 10000 24 (.agg (pc p).toArray) (.agg (pc p).toArray)).run Try.prog w = .ok true w := by
 have e : pc p = ((List.range 256).map fun i => (p i : Int)).map (Value.int .u16) := by simp [pc]
 rw [e, eq_arr (k := .u16) (n := 256) (e := 22) (by kernel_rfl) Try.underlying24 Try.underlying22 (by kernel_rfl) (by kernel_rfl) _ _ (by simp) (by simp) ?_ ?_]
 ·simp
 all_goals
  intro x hx
  obtain ⟨i, hi, rfl⟩ := List.mem_map.1 hx
  have h := hp i (List.mem_range.1 hi)
  simp [Lit.wf, IntKind.min, IntKind.max, IntKind.signed, IntKind.bits]
  omega
theorem rd_16 (x : Int) : rd x < 65536 := Nat.lt_trans (rd_lt x) (by decide)
set_option maxHeartbeats 2000000 in
theorem ringPairs_of (p : Nat → Nat) (p2 : Nat → Nat) (hp : ∀ i, i < 256 → p i < 65536) (hp2 : ∀ i, i < 256 → p2 i < 65536) (w : World)
 (hlive : ∀ W, Calls Try.prog 13 #[] W (TrueIs W))
 (hF0 : ∀ W, Calls Try.prog 26 #[polyV p, polyV p2] W (PolyIs W (pairN p p2)))
 : Calls Try.prog 5 #[polyV p, polyV p2] w (TrueIs w) := by
 unfold TrueIs
 have HLV : Shh (∀ W, Calls Try.prog 13 #[] W (fun e W' => e = .returned (.bool true) ∧ Below W.heap.size W W')) := ⟨hlive⟩
 clear hlive
 obtain ⟨r0, Hr0⟩ : ∃ r, Shh (r = pairN p p2) := ⟨_, ⟨rfl⟩⟩
 have HP0 : Shh (∀ W, Calls Try.prog 26 #[.agg (pc p).toArray, .agg (pc p2).toArray] W (fun e W' => e = .returned (.agg (pc r0).toArray) ∧ Below W.heap.size W W')) := ⟨fun W => by rw [Hr0.out]; exact hF0 W⟩
 have HD0 : Shh (∀ W, Calls Try.prog 27 #[.agg (pc p).toArray, .agg (pc p2).toArray] W (fun e W' => e = .returned (.agg (pc r0).toArray) ∧ Below W.heap.size W W')) := ⟨fun W => by rw [Hr0.out]; exact refMulNtt_any p p2 hp hp2 W⟩
 have HQ0 : Shh (∀ W, (Op.equalIn 10000 24 (.agg (pc r0).toArray) (.agg (pc r0).toArray)).run Try.prog W = .ok true W) := ⟨fun W => eq_poly _ (by rw [Hr0.out]; exact fun i hi => rd_16 _) W⟩
 clear Hr0 hF0
 unfold polyV
 generalize hN : w.heap.size = N at *
 clear hp hp2
 go_enter Try.func5, Try.ntmps5
 obtain ⟨W, hW⟩ : ∃ W, W = ((w.alloc (.cells (pc p).toArray 24)).alloc (.cells (pc p2).toArray 24)) := ⟨_, rfl⟩
 have HW : Shh (Row W N 24 (pc p) ∧ Row W (N + 1) 24 (pc p2) ∧ Below N w W) := by
  refine ⟨by rw [hW]; exact ((Row.new_ hN.symm rfl).alloc _), by rw [hW]; exact (Row.new_ (by rw [asz, hN]) rfl), ?_⟩
  rw [hW, ← hN]
  exact (Below.chain (bel1 _ _) (bel1 _ _))
 go_wp2
 try simp only [asz, hN]
 rw [← hW]
 clear hW
 refine wp_region_held_drew (S := fun w' => Row w' N 24 (pc p) ∧ Row w' (N + 1) 24 (pc p2)) (by kernel_rfl) ⟨HW.out.1.drew, HW.out.2.1.drew⟩ (fun hS => ?_)
 clear hS
 obtain ⟨V, hV⟩ : ∃ V, V = World.drew W := ⟨_, rfl⟩
 rw [← hV]
 have F : Shh (Row V N 24 (pc p) ∧ Row V (N + 1) 24 (pc p2) ∧ Below N w V) := by subst hV; exact ⟨HW.out.1.drew, HW.out.2.1.drew, HW.out.2.2.drew⟩
 clear hV HW
 revert F
 revert V
 intro V F
 have q0 := F.out.1
 have q1 := F.out.2.1
 have bN := F.out.2.2
 clear F
 refine held_one 0 (by kernel_rfl) ?_
 refine step_call 0 _ _ (some 5) 13 #[] (by rfl) (by kernel_rfl) (by first | kernel_rfl | go_simp) ?_
 refine (HLV.out V).mono ?_
 rintro e Y1 ⟨rfl, b0⟩
 have bx : Below V.heap.size V Y1 := b0
 clear b0
 have b_V := bx
 have m_Y1 : V.heap.size ≤ Y1.heap.size := bx.size
 clear bx
 refine ⟨_, rfl, ⟨(q0.go b_V), (q1.go b_V)⟩, ?_⟩
 simp only [Act.put, arr9, hd9, tl9]
 refine hdv0 1 6 (.bool true) (by rfl) (⟨(q0.go b_V), (q1.go b_V)⟩) ?_
 refine held_load 2 24 (.tmp 2) (some 7) (by kernel_rfl) (by rfl) (by kernel_rfl) N 0 (by kernel_rfl) (pc p) _ (fun w h => h.1.range) Try.underlying24 rfl (info_poly.trans (size_poly p)) (fun _ _ _ _ h => h) (⟨(q0.go b_V), (q1.go b_V)⟩) ?_
 simp only [Act.put, arr9, hd9, tl9]
 refine held_load 3 24 (.tmp 3) (some 8) (by kernel_rfl) (by rfl) (by kernel_rfl) (N + 1) 0 (by kernel_rfl) (pc p2) _ (fun w h => h.2.range) Try.underlying24 rfl (info_poly.trans (size_poly p2)) (fun _ _ _ _ h => h) (⟨(q0.go b_V), (q1.go b_V)⟩) ?_
 simp only [Act.put, arr9, hd9, tl9]
 refine held_load 5 24 (.tmp 2) (some 10) (by kernel_rfl) (by rfl) (by kernel_rfl) N 0 (by kernel_rfl) (pc p) _ (fun w h => h.1.range) Try.underlying24 rfl (info_poly.trans (size_poly p)) (fun _ _ _ _ h => h) (⟨(q0.go b_V), (q1.go b_V)⟩) ?_
 simp only [Act.put, arr9, hd9, tl9]
 refine held_load 6 24 (.tmp 3) (some 11) (by kernel_rfl) (by rfl) (by kernel_rfl) (N + 1) 0 (by kernel_rfl) (pc p2) _ (fun w h => h.2.range) Try.underlying24 rfl (info_poly.trans (size_poly p2)) (fun _ _ _ _ h => h) (⟨(q0.go b_V), (q1.go b_V)⟩) ?_
 simp only [Act.put, arr9, hd9, tl9]
 refine held_one 4 (by kernel_rfl) ?_
 refine step_call 4 _ _ (some 9) 26 #[.agg (pc p).toArray, .agg (pc p2).toArray] (by rfl) (by kernel_rfl) (by first | kernel_rfl | go_simp) ?_
 refine (HP0.out Y1).mono ?_
 rintro e Y2 ⟨rfl, bp⟩
 have bx : Below Y1.heap.size Y1 Y2 := bp
 clear bp
 replace b_V := Below.chain b_V bx
 have b_Y1 := bx
 have m_Y2 : Y1.heap.size ≤ Y2.heap.size := bx.size
 clear bx
 refine ⟨_, rfl, ⟨(q0.go b_V), (q1.go b_V)⟩, ?_⟩
 simp only [Act.put, arr9, hd9, tl9]
 refine held_one 7 (by kernel_rfl) ?_
 refine step_call 7 _ _ (some 12) 27 #[.agg (pc p).toArray, .agg (pc p2).toArray] (by rfl) (by kernel_rfl) (by first | kernel_rfl | go_simp) ?_
 refine (HD0.out Y2).mono ?_
 rintro e Y3 ⟨rfl, bd⟩
 have bx : Below Y2.heap.size Y2 Y3 := bd
 clear bd
 replace b_V := Below.chain b_V bx
 replace b_Y1 := Below.chain b_Y1 bx
 have b_Y2 := bx
 have m_Y3 : Y2.heap.size ≤ Y3.heap.size := bx.size
 clear bx
 refine ⟨_, rfl, ⟨(q0.go b_V), (q1.go b_V)⟩, ?_⟩
 simp only [Act.put, arr9, hd9, tl9]
 refine hdv 8 13 (.bool true) (by rfl) (fun w hS => run_eql_agg (by kernel_rfl) (HQ0.out w) (by kernel_rfl) (by kernel_rfl)) (⟨(q0.go b_V), (q1.go b_V)⟩) ?_
 refine hdv0 9 14 (.bool true) (by rfl) (⟨(q0.go b_V), (q1.go b_V)⟩) ?_
 refine hdv0 10 4 (.bool true) (by rfl) (⟨(q0.go b_V), (q1.go b_V)⟩) ?_
 refine wpAnyH_done (by kernel_rfl) ?_ _
 have HR : Shh (Below N w Y3) := ⟨bN.trans (b_V.mono (by have := bN.size; omega))⟩
 clear m_Y3 b_Y2 m_Y2 b_Y1 m_Y1 b_V bN q0 q1
 go_wp2
 go_ret
 exact ⟨rfl, HR.out⟩
set_option maxHeartbeats 2000000 in
theorem ringSums_of (p : Nat → Nat) (p2 : Nat → Nat) (hp : ∀ i, i < 256 → p i < 65536) (hp2 : ∀ i, i < 256 → p2 i < 65536) (w : World)
 (hlive : ∀ W, Calls Try.prog 13 #[] W (TrueIs W))
 (hF0 : ∀ W, Calls Try.prog 14 #[polyV p] W (PolyIs W (redN p)))
 (hF1 : ∀ W, Calls Try.prog 16 #[polyV p, polyV p2] W (PolyIs W (addN p p2)))
 (hF2 : ∀ W, Calls Try.prog 18 #[polyV p, polyV p2] W (PolyIs W (subN p p2)))
 (hF3 : ∀ W, Calls Try.prog 20 #[polyV p, polyV p2] W (PolyIs W (mulN p p2)))
 : Calls Try.prog 3 #[polyV p, polyV p2] w (TrueIs w) := by
 unfold TrueIs
 have HLV : Shh (∀ W, Calls Try.prog 13 #[] W (fun e W' => e = .returned (.bool true) ∧ Below W.heap.size W W')) := ⟨hlive⟩
 clear hlive
 obtain ⟨r0, Hr0⟩ : ∃ r, Shh (r = redN p) := ⟨_, ⟨rfl⟩⟩
 have HP0 : Shh (∀ W, Calls Try.prog 14 #[.agg (pc p).toArray] W (fun e W' => e = .returned (.agg (pc r0).toArray) ∧ Below W.heap.size W W')) := ⟨fun W => by rw [Hr0.out]; exact hF0 W⟩
 have HD0 : Shh (∀ W, Calls Try.prog 15 #[.agg (pc p).toArray] W (fun e W' => e = .returned (.agg (pc r0).toArray) ∧ Below W.heap.size W W')) := ⟨fun W => by rw [Hr0.out]; exact refReduce_any p hp W⟩
 have HQ0 : Shh (∀ W, (Op.equalIn 10000 24 (.agg (pc r0).toArray) (.agg (pc r0).toArray)).run Try.prog W = .ok true W) := ⟨fun W => eq_poly _ (by rw [Hr0.out]; exact fun i hi => rd_16 _) W⟩
 clear Hr0 hF0
 obtain ⟨r1, Hr1⟩ : ∃ r, Shh (r = addN p p2) := ⟨_, ⟨rfl⟩⟩
 have HP1 : Shh (∀ W, Calls Try.prog 16 #[.agg (pc p).toArray, .agg (pc p2).toArray] W (fun e W' => e = .returned (.agg (pc r1).toArray) ∧ Below W.heap.size W W')) := ⟨fun W => by rw [Hr1.out]; exact hF1 W⟩
 have HD1 : Shh (∀ W, Calls Try.prog 17 #[.agg (pc p).toArray, .agg (pc p2).toArray] W (fun e W' => e = .returned (.agg (pc r1).toArray) ∧ Below W.heap.size W W')) := ⟨fun W => by rw [Hr1.out]; exact refAdd_any p p2 hp hp2 W⟩
 have HQ1 : Shh (∀ W, (Op.equalIn 10000 24 (.agg (pc r1).toArray) (.agg (pc r1).toArray)).run Try.prog W = .ok true W) := ⟨fun W => eq_poly _ (by rw [Hr1.out]; exact fun i hi => rd_16 _) W⟩
 clear Hr1 hF1
 obtain ⟨r2, Hr2⟩ : ∃ r, Shh (r = subN p p2) := ⟨_, ⟨rfl⟩⟩
 have HP2 : Shh (∀ W, Calls Try.prog 18 #[.agg (pc p).toArray, .agg (pc p2).toArray] W (fun e W' => e = .returned (.agg (pc r2).toArray) ∧ Below W.heap.size W W')) := ⟨fun W => by rw [Hr2.out]; exact hF2 W⟩
 have HD2 : Shh (∀ W, Calls Try.prog 19 #[.agg (pc p).toArray, .agg (pc p2).toArray] W (fun e W' => e = .returned (.agg (pc r2).toArray) ∧ Below W.heap.size W W')) := ⟨fun W => by rw [Hr2.out]; exact refSub_any p p2 hp hp2 W⟩
 have HQ2 : Shh (∀ W, (Op.equalIn 10000 24 (.agg (pc r2).toArray) (.agg (pc r2).toArray)).run Try.prog W = .ok true W) := ⟨fun W => eq_poly _ (by rw [Hr2.out]; exact fun i hi => rd_16 _) W⟩
 clear Hr2 hF2
 obtain ⟨r3, Hr3⟩ : ∃ r, Shh (r = mulN p p2) := ⟨_, ⟨rfl⟩⟩
 have HP3 : Shh (∀ W, Calls Try.prog 20 #[.agg (pc p).toArray, .agg (pc p2).toArray] W (fun e W' => e = .returned (.agg (pc r3).toArray) ∧ Below W.heap.size W W')) := ⟨fun W => by rw [Hr3.out]; exact hF3 W⟩
 have HD3 : Shh (∀ W, Calls Try.prog 21 #[.agg (pc p).toArray, .agg (pc p2).toArray] W (fun e W' => e = .returned (.agg (pc r3).toArray) ∧ Below W.heap.size W W')) := ⟨fun W => by rw [Hr3.out]; exact refMul_any p p2 hp hp2 W⟩
 have HQ3 : Shh (∀ W, (Op.equalIn 10000 24 (.agg (pc r3).toArray) (.agg (pc r3).toArray)).run Try.prog W = .ok true W) := ⟨fun W => eq_poly _ (by rw [Hr3.out]; exact fun i hi => rd_16 _) W⟩
 clear Hr3 hF3
 unfold polyV
 generalize hN : w.heap.size = N at *
 clear hp hp2
 go_enter Try.func3, Try.ntmps3
 obtain ⟨W, hW⟩ : ∃ W, W = ((w.alloc (.cells (pc p).toArray 24)).alloc (.cells (pc p2).toArray 24)) := ⟨_, rfl⟩
 have HW : Shh (Row W N 24 (pc p) ∧ Row W (N + 1) 24 (pc p2) ∧ Below N w W) := by
  refine ⟨by rw [hW]; exact ((Row.new_ hN.symm rfl).alloc _), by rw [hW]; exact (Row.new_ (by rw [asz, hN]) rfl), ?_⟩
  rw [hW, ← hN]
  exact (Below.chain (bel1 _ _) (bel1 _ _))
 go_wp2
 try simp only [asz, hN]
 rw [← hW]
 clear hW
 refine wp_region_held_drew (S := fun w' => Row w' N 24 (pc p) ∧ Row w' (N + 1) 24 (pc p2)) (by kernel_rfl) ⟨HW.out.1.drew, HW.out.2.1.drew⟩ (fun hS => ?_)
 clear hS
 obtain ⟨V, hV⟩ : ∃ V, V = World.drew W := ⟨_, rfl⟩
 rw [← hV]
 have F : Shh (Row V N 24 (pc p) ∧ Row V (N + 1) 24 (pc p2) ∧ Below N w V) := by subst hV; exact ⟨HW.out.1.drew, HW.out.2.1.drew, HW.out.2.2.drew⟩
 clear hV HW
 revert F
 revert V
 intro V F
 have q0 := F.out.1
 have q1 := F.out.2.1
 have bN := F.out.2.2
 clear F
 refine held_one 0 (by kernel_rfl) ?_
 refine step_call 0 _ _ (some 5) 13 #[] (by rfl) (by kernel_rfl) (by first | kernel_rfl | go_simp) ?_
 refine (HLV.out V).mono ?_
 rintro e Y1 ⟨rfl, b0⟩
 have bx : Below V.heap.size V Y1 := b0
 clear b0
 have b_V := bx
 have m_Y1 : V.heap.size ≤ Y1.heap.size := bx.size
 clear bx
 refine ⟨_, rfl, ⟨(q0.go b_V), (q1.go b_V)⟩, ?_⟩
 simp only [Act.put, arr9, hd9, tl9]
 refine hdv0 1 6 (.bool true) (by rfl) (⟨(q0.go b_V), (q1.go b_V)⟩) ?_
 refine held_load 2 24 (.tmp 2) (some 7) (by kernel_rfl) (by rfl) (by kernel_rfl) N 0 (by kernel_rfl) (pc p) _ (fun w h => h.1.range) Try.underlying24 rfl (info_poly.trans (size_poly p)) (fun _ _ _ _ h => h) (⟨(q0.go b_V), (q1.go b_V)⟩) ?_
 simp only [Act.put, arr9, hd9, tl9]
 refine held_load 4 24 (.tmp 2) (some 9) (by kernel_rfl) (by rfl) (by kernel_rfl) N 0 (by kernel_rfl) (pc p) _ (fun w h => h.1.range) Try.underlying24 rfl (info_poly.trans (size_poly p)) (fun _ _ _ _ h => h) (⟨(q0.go b_V), (q1.go b_V)⟩) ?_
 simp only [Act.put, arr9, hd9, tl9]
 refine held_one 3 (by kernel_rfl) ?_
 refine step_call 3 _ _ (some 8) 14 #[.agg (pc p).toArray] (by rfl) (by kernel_rfl) (by first | kernel_rfl | go_simp) ?_
 refine (HP0.out Y1).mono ?_
 rintro e Y2 ⟨rfl, bp⟩
 have bx : Below Y1.heap.size Y1 Y2 := bp
 clear bp
 replace b_V := Below.chain b_V bx
 have b_Y1 := bx
 have m_Y2 : Y1.heap.size ≤ Y2.heap.size := bx.size
 clear bx
 refine ⟨_, rfl, ⟨(q0.go b_V), (q1.go b_V)⟩, ?_⟩
 simp only [Act.put, arr9, hd9, tl9]
 refine held_one 5 (by kernel_rfl) ?_
 refine step_call 5 _ _ (some 10) 15 #[.agg (pc p).toArray] (by rfl) (by kernel_rfl) (by first | kernel_rfl | go_simp) ?_
 refine (HD0.out Y2).mono ?_
 rintro e Y3 ⟨rfl, bd⟩
 have bx : Below Y2.heap.size Y2 Y3 := bd
 clear bd
 replace b_V := Below.chain b_V bx
 replace b_Y1 := Below.chain b_Y1 bx
 have b_Y2 := bx
 have m_Y3 : Y2.heap.size ≤ Y3.heap.size := bx.size
 clear bx
 refine ⟨_, rfl, ⟨(q0.go b_V), (q1.go b_V)⟩, ?_⟩
 simp only [Act.put, arr9, hd9, tl9]
 refine hdv 6 11 (.bool true) (by rfl) (fun w hS => run_eql_agg (by kernel_rfl) (HQ0.out w) (by kernel_rfl) (by kernel_rfl)) (⟨(q0.go b_V), (q1.go b_V)⟩) ?_
 refine hdv0 7 12 (.bool true) (by rfl) (⟨(q0.go b_V), (q1.go b_V)⟩) ?_
 refine hdv0 8 13 (.bool true) (by rfl) (⟨(q0.go b_V), (q1.go b_V)⟩) ?_
 refine held_load 9 24 (.tmp 2) (some 14) (by kernel_rfl) (by rfl) (by kernel_rfl) N 0 (by kernel_rfl) (pc p) _ (fun w h => h.1.range) Try.underlying24 rfl (info_poly.trans (size_poly p)) (fun _ _ _ _ h => h) (⟨(q0.go b_V), (q1.go b_V)⟩) ?_
 simp only [Act.put, arr9, hd9, tl9]
 refine held_load 10 24 (.tmp 3) (some 15) (by kernel_rfl) (by rfl) (by kernel_rfl) (N + 1) 0 (by kernel_rfl) (pc p2) _ (fun w h => h.2.range) Try.underlying24 rfl (info_poly.trans (size_poly p2)) (fun _ _ _ _ h => h) (⟨(q0.go b_V), (q1.go b_V)⟩) ?_
 simp only [Act.put, arr9, hd9, tl9]
 refine held_load 12 24 (.tmp 2) (some 17) (by kernel_rfl) (by rfl) (by kernel_rfl) N 0 (by kernel_rfl) (pc p) _ (fun w h => h.1.range) Try.underlying24 rfl (info_poly.trans (size_poly p)) (fun _ _ _ _ h => h) (⟨(q0.go b_V), (q1.go b_V)⟩) ?_
 simp only [Act.put, arr9, hd9, tl9]
 refine held_load 13 24 (.tmp 3) (some 18) (by kernel_rfl) (by rfl) (by kernel_rfl) (N + 1) 0 (by kernel_rfl) (pc p2) _ (fun w h => h.2.range) Try.underlying24 rfl (info_poly.trans (size_poly p2)) (fun _ _ _ _ h => h) (⟨(q0.go b_V), (q1.go b_V)⟩) ?_
 simp only [Act.put, arr9, hd9, tl9]
 refine held_one 11 (by kernel_rfl) ?_
 refine step_call 11 _ _ (some 16) 16 #[.agg (pc p).toArray, .agg (pc p2).toArray] (by rfl) (by kernel_rfl) (by first | kernel_rfl | go_simp) ?_
 refine (HP1.out Y3).mono ?_
 rintro e Y4 ⟨rfl, bp⟩
 have bx : Below Y3.heap.size Y3 Y4 := bp
 clear bp
 replace b_V := Below.chain b_V bx
 replace b_Y1 := Below.chain b_Y1 bx
 replace b_Y2 := Below.chain b_Y2 bx
 have b_Y3 := bx
 have m_Y4 : Y3.heap.size ≤ Y4.heap.size := bx.size
 clear bx
 refine ⟨_, rfl, ⟨(q0.go b_V), (q1.go b_V)⟩, ?_⟩
 simp only [Act.put, arr9, hd9, tl9]
 refine held_one 14 (by kernel_rfl) ?_
 refine step_call 14 _ _ (some 19) 17 #[.agg (pc p).toArray, .agg (pc p2).toArray] (by rfl) (by kernel_rfl) (by first | kernel_rfl | go_simp) ?_
 refine (HD1.out Y4).mono ?_
 rintro e Y5 ⟨rfl, bd⟩
 have bx : Below Y4.heap.size Y4 Y5 := bd
 clear bd
 replace b_V := Below.chain b_V bx
 replace b_Y1 := Below.chain b_Y1 bx
 replace b_Y2 := Below.chain b_Y2 bx
 replace b_Y3 := Below.chain b_Y3 bx
 have b_Y4 := bx
 have m_Y5 : Y4.heap.size ≤ Y5.heap.size := bx.size
 clear bx
 refine ⟨_, rfl, ⟨(q0.go b_V), (q1.go b_V)⟩, ?_⟩
 simp only [Act.put, arr9, hd9, tl9]
 refine hdv 15 20 (.bool true) (by rfl) (fun w hS => run_eql_agg (by kernel_rfl) (HQ1.out w) (by kernel_rfl) (by kernel_rfl)) (⟨(q0.go b_V), (q1.go b_V)⟩) ?_
 refine hdv0 16 21 (.bool true) (by rfl) (⟨(q0.go b_V), (q1.go b_V)⟩) ?_
 refine hdv0 17 22 (.bool true) (by rfl) (⟨(q0.go b_V), (q1.go b_V)⟩) ?_
 refine held_load 18 24 (.tmp 2) (some 23) (by kernel_rfl) (by rfl) (by kernel_rfl) N 0 (by kernel_rfl) (pc p) _ (fun w h => h.1.range) Try.underlying24 rfl (info_poly.trans (size_poly p)) (fun _ _ _ _ h => h) (⟨(q0.go b_V), (q1.go b_V)⟩) ?_
 simp only [Act.put, arr9, hd9, tl9]
 refine held_load 19 24 (.tmp 3) (some 24) (by kernel_rfl) (by rfl) (by kernel_rfl) (N + 1) 0 (by kernel_rfl) (pc p2) _ (fun w h => h.2.range) Try.underlying24 rfl (info_poly.trans (size_poly p2)) (fun _ _ _ _ h => h) (⟨(q0.go b_V), (q1.go b_V)⟩) ?_
 simp only [Act.put, arr9, hd9, tl9]
 refine held_load 21 24 (.tmp 2) (some 26) (by kernel_rfl) (by rfl) (by kernel_rfl) N 0 (by kernel_rfl) (pc p) _ (fun w h => h.1.range) Try.underlying24 rfl (info_poly.trans (size_poly p)) (fun _ _ _ _ h => h) (⟨(q0.go b_V), (q1.go b_V)⟩) ?_
 simp only [Act.put, arr9, hd9, tl9]
 refine held_load 22 24 (.tmp 3) (some 27) (by kernel_rfl) (by rfl) (by kernel_rfl) (N + 1) 0 (by kernel_rfl) (pc p2) _ (fun w h => h.2.range) Try.underlying24 rfl (info_poly.trans (size_poly p2)) (fun _ _ _ _ h => h) (⟨(q0.go b_V), (q1.go b_V)⟩) ?_
 simp only [Act.put, arr9, hd9, tl9]
 refine held_one 20 (by kernel_rfl) ?_
 refine step_call 20 _ _ (some 25) 18 #[.agg (pc p).toArray, .agg (pc p2).toArray] (by rfl) (by kernel_rfl) (by first | kernel_rfl | go_simp) ?_
 refine (HP2.out Y5).mono ?_
 rintro e Y6 ⟨rfl, bp⟩
 have bx : Below Y5.heap.size Y5 Y6 := bp
 clear bp
 replace b_V := Below.chain b_V bx
 replace b_Y1 := Below.chain b_Y1 bx
 replace b_Y2 := Below.chain b_Y2 bx
 replace b_Y3 := Below.chain b_Y3 bx
 replace b_Y4 := Below.chain b_Y4 bx
 have b_Y5 := bx
 have m_Y6 : Y5.heap.size ≤ Y6.heap.size := bx.size
 clear bx
 refine ⟨_, rfl, ⟨(q0.go b_V), (q1.go b_V)⟩, ?_⟩
 simp only [Act.put, arr9, hd9, tl9]
 refine held_one 23 (by kernel_rfl) ?_
 refine step_call 23 _ _ (some 28) 19 #[.agg (pc p).toArray, .agg (pc p2).toArray] (by rfl) (by kernel_rfl) (by first | kernel_rfl | go_simp) ?_
 refine (HD2.out Y6).mono ?_
 rintro e Y7 ⟨rfl, bd⟩
 have bx : Below Y6.heap.size Y6 Y7 := bd
 clear bd
 replace b_V := Below.chain b_V bx
 replace b_Y1 := Below.chain b_Y1 bx
 replace b_Y2 := Below.chain b_Y2 bx
 replace b_Y3 := Below.chain b_Y3 bx
 replace b_Y4 := Below.chain b_Y4 bx
 replace b_Y5 := Below.chain b_Y5 bx
 have b_Y6 := bx
 have m_Y7 : Y6.heap.size ≤ Y7.heap.size := bx.size
 clear bx
 refine ⟨_, rfl, ⟨(q0.go b_V), (q1.go b_V)⟩, ?_⟩
 simp only [Act.put, arr9, hd9, tl9]
 refine hdv 24 29 (.bool true) (by rfl) (fun w hS => run_eql_agg (by kernel_rfl) (HQ2.out w) (by kernel_rfl) (by kernel_rfl)) (⟨(q0.go b_V), (q1.go b_V)⟩) ?_
 refine hdv0 25 30 (.bool true) (by rfl) (⟨(q0.go b_V), (q1.go b_V)⟩) ?_
 refine hdv0 26 31 (.bool true) (by rfl) (⟨(q0.go b_V), (q1.go b_V)⟩) ?_
 refine held_load 27 24 (.tmp 2) (some 32) (by kernel_rfl) (by rfl) (by kernel_rfl) N 0 (by kernel_rfl) (pc p) _ (fun w h => h.1.range) Try.underlying24 rfl (info_poly.trans (size_poly p)) (fun _ _ _ _ h => h) (⟨(q0.go b_V), (q1.go b_V)⟩) ?_
 simp only [Act.put, arr9, hd9, tl9]
 refine held_load 28 24 (.tmp 3) (some 33) (by kernel_rfl) (by rfl) (by kernel_rfl) (N + 1) 0 (by kernel_rfl) (pc p2) _ (fun w h => h.2.range) Try.underlying24 rfl (info_poly.trans (size_poly p2)) (fun _ _ _ _ h => h) (⟨(q0.go b_V), (q1.go b_V)⟩) ?_
 simp only [Act.put, arr9, hd9, tl9]
 refine held_load 30 24 (.tmp 2) (some 35) (by kernel_rfl) (by rfl) (by kernel_rfl) N 0 (by kernel_rfl) (pc p) _ (fun w h => h.1.range) Try.underlying24 rfl (info_poly.trans (size_poly p)) (fun _ _ _ _ h => h) (⟨(q0.go b_V), (q1.go b_V)⟩) ?_
 simp only [Act.put, arr9, hd9, tl9]
 refine held_load 31 24 (.tmp 3) (some 36) (by kernel_rfl) (by rfl) (by kernel_rfl) (N + 1) 0 (by kernel_rfl) (pc p2) _ (fun w h => h.2.range) Try.underlying24 rfl (info_poly.trans (size_poly p2)) (fun _ _ _ _ h => h) (⟨(q0.go b_V), (q1.go b_V)⟩) ?_
 simp only [Act.put, arr9, hd9, tl9]
 refine held_one 29 (by kernel_rfl) ?_
 refine step_call 29 _ _ (some 34) 20 #[.agg (pc p).toArray, .agg (pc p2).toArray] (by rfl) (by kernel_rfl) (by first | kernel_rfl | go_simp) ?_
 refine (HP3.out Y7).mono ?_
 rintro e Y8 ⟨rfl, bp⟩
 have bx : Below Y7.heap.size Y7 Y8 := bp
 clear bp
 replace b_V := Below.chain b_V bx
 replace b_Y1 := Below.chain b_Y1 bx
 replace b_Y2 := Below.chain b_Y2 bx
 replace b_Y3 := Below.chain b_Y3 bx
 replace b_Y4 := Below.chain b_Y4 bx
 replace b_Y5 := Below.chain b_Y5 bx
 replace b_Y6 := Below.chain b_Y6 bx
 have b_Y7 := bx
 have m_Y8 : Y7.heap.size ≤ Y8.heap.size := bx.size
 clear bx
 refine ⟨_, rfl, ⟨(q0.go b_V), (q1.go b_V)⟩, ?_⟩
 simp only [Act.put, arr9, hd9, tl9]
 refine held_one 32 (by kernel_rfl) ?_
 refine step_call 32 _ _ (some 37) 21 #[.agg (pc p).toArray, .agg (pc p2).toArray] (by rfl) (by kernel_rfl) (by first | kernel_rfl | go_simp) ?_
 refine (HD3.out Y8).mono ?_
 rintro e Y9 ⟨rfl, bd⟩
 have bx : Below Y8.heap.size Y8 Y9 := bd
 clear bd
 replace b_V := Below.chain b_V bx
 replace b_Y1 := Below.chain b_Y1 bx
 replace b_Y2 := Below.chain b_Y2 bx
 replace b_Y3 := Below.chain b_Y3 bx
 replace b_Y4 := Below.chain b_Y4 bx
 replace b_Y5 := Below.chain b_Y5 bx
 replace b_Y6 := Below.chain b_Y6 bx
 replace b_Y7 := Below.chain b_Y7 bx
 have b_Y8 := bx
 have m_Y9 : Y8.heap.size ≤ Y9.heap.size := bx.size
 clear bx
 refine ⟨_, rfl, ⟨(q0.go b_V), (q1.go b_V)⟩, ?_⟩
 simp only [Act.put, arr9, hd9, tl9]
 refine hdv 33 38 (.bool true) (by rfl) (fun w hS => run_eql_agg (by kernel_rfl) (HQ3.out w) (by kernel_rfl) (by kernel_rfl)) (⟨(q0.go b_V), (q1.go b_V)⟩) ?_
 refine hdv0 34 39 (.bool true) (by rfl) (⟨(q0.go b_V), (q1.go b_V)⟩) ?_
 refine hdv0 35 4 (.bool true) (by rfl) (⟨(q0.go b_V), (q1.go b_V)⟩) ?_
 refine wpAnyH_done (by kernel_rfl) ?_ _
 have HR : Shh (Below N w Y9) := ⟨bN.trans (b_V.mono (by have := bN.size; omega))⟩
 clear m_Y9 b_Y8 m_Y8 b_Y7 m_Y7 b_Y6 m_Y6 b_Y5 m_Y5 b_Y4 m_Y4 b_Y3 m_Y3 b_Y2 m_Y2 b_Y1 m_Y1 b_V bN q0 q1
 go_wp2
 go_ret
 exact ⟨rfl, HR.out⟩
set_option maxHeartbeats 2000000 in
theorem ringNtts_of (p : Nat → Nat) (hp : ∀ i, i < 256 → p i < 65536) (w : World)
 (hlive : ∀ W, Calls Try.prog 13 #[] W (TrueIs W))
 (hF0 : ∀ W, Calls Try.prog 22 #[polyV p] W (PolyIs W (nttN p)))
 (hF1 : ∀ W, Calls Try.prog 24 #[polyV p] W (PolyIs W (invN p)))
 : Calls Try.prog 4 #[polyV p] w (TrueIs w) := by
 unfold TrueIs
 have HLV : Shh (∀ W, Calls Try.prog 13 #[] W (fun e W' => e = .returned (.bool true) ∧ Below W.heap.size W W')) := ⟨hlive⟩
 clear hlive
 obtain ⟨r0, Hr0⟩ : ∃ r, Shh (r = nttN p) := ⟨_, ⟨rfl⟩⟩
 have HP0 : Shh (∀ W, Calls Try.prog 22 #[.agg (pc p).toArray] W (fun e W' => e = .returned (.agg (pc r0).toArray) ∧ Below W.heap.size W W')) := ⟨fun W => by rw [Hr0.out]; exact hF0 W⟩
 have HD0 : Shh (∀ W, Calls Try.prog 23 #[.agg (pc p).toArray] W (fun e W' => e = .returned (.agg (pc r0).toArray) ∧ Below W.heap.size W W')) := ⟨fun W => by rw [Hr0.out]; exact refNtt_any p hp W⟩
 have HQ0 : Shh (∀ W, (Op.equalIn 10000 24 (.agg (pc r0).toArray) (.agg (pc r0).toArray)).run Try.prog W = .ok true W) := ⟨fun W => eq_poly _ (by rw [Hr0.out]; exact fun i hi => rd_16 _) W⟩
 clear Hr0 hF0
 obtain ⟨r1, Hr1⟩ : ∃ r, Shh (r = invN p) := ⟨_, ⟨rfl⟩⟩
 have HP1 : Shh (∀ W, Calls Try.prog 24 #[.agg (pc p).toArray] W (fun e W' => e = .returned (.agg (pc r1).toArray) ∧ Below W.heap.size W W')) := ⟨fun W => by rw [Hr1.out]; exact hF1 W⟩
 have HD1 : Shh (∀ W, Calls Try.prog 25 #[.agg (pc p).toArray] W (fun e W' => e = .returned (.agg (pc r1).toArray) ∧ Below W.heap.size W W')) := ⟨fun W => by rw [Hr1.out]; exact refInv_any p hp W⟩
 have HQ1 : Shh (∀ W, (Op.equalIn 10000 24 (.agg (pc r1).toArray) (.agg (pc r1).toArray)).run Try.prog W = .ok true W) := ⟨fun W => eq_poly _ (by rw [Hr1.out]; exact fun i hi => rd_16 _) W⟩
 clear Hr1 hF1
 unfold polyV
 generalize hN : w.heap.size = N at *
 clear hp
 go_enter Try.func4, Try.ntmps4
 obtain ⟨W, hW⟩ : ∃ W, W = (w.alloc (.cells (pc p).toArray 24)) := ⟨_, rfl⟩
 have HW : Shh (Row W N 24 (pc p) ∧ Below N w W) := by
  refine ⟨by rw [hW]; exact (Row.new_ hN.symm rfl), ?_⟩
  rw [hW, ← hN]
  exact (bel1 _ _)
 go_wp2
 try simp only [asz, hN]
 rw [← hW]
 clear hW
 refine wp_region_held_drew (S := fun w' => Row w' N 24 (pc p)) (by kernel_rfl) HW.out.1.drew (fun hS => ?_)
 clear hS
 obtain ⟨V, hV⟩ : ∃ V, V = World.drew W := ⟨_, rfl⟩
 rw [← hV]
 have F : Shh (Row V N 24 (pc p) ∧ Below N w V) := by subst hV; exact ⟨HW.out.1.drew, HW.out.2.drew⟩
 clear hV HW
 revert F
 revert V
 intro V F
 have q0 := F.out.1
 have bN := F.out.2
 clear F
 refine held_one 0 (by kernel_rfl) ?_
 refine step_call 0 _ _ (some 3) 13 #[] (by rfl) (by kernel_rfl) (by first | kernel_rfl | go_simp) ?_
 refine (HLV.out V).mono ?_
 rintro e Y1 ⟨rfl, b0⟩
 have bx : Below V.heap.size V Y1 := b0
 clear b0
 have b_V := bx
 have m_Y1 : V.heap.size ≤ Y1.heap.size := bx.size
 clear bx
 refine ⟨_, rfl, (q0.go b_V), ?_⟩
 simp only [Act.put, arr9, hd9, tl9]
 refine hdv0 1 4 (.bool true) (by rfl) ((q0.go b_V)) ?_
 refine held_load 2 24 (.tmp 1) (some 5) (by kernel_rfl) (by rfl) (by kernel_rfl) N 0 (by kernel_rfl) (pc p) _ (fun w h => h.range) Try.underlying24 rfl (info_poly.trans (size_poly p)) (fun _ _ _ _ h => h) ((q0.go b_V)) ?_
 simp only [Act.put, arr9, hd9, tl9]
 refine held_load 4 24 (.tmp 1) (some 7) (by kernel_rfl) (by rfl) (by kernel_rfl) N 0 (by kernel_rfl) (pc p) _ (fun w h => h.range) Try.underlying24 rfl (info_poly.trans (size_poly p)) (fun _ _ _ _ h => h) ((q0.go b_V)) ?_
 simp only [Act.put, arr9, hd9, tl9]
 refine held_one 3 (by kernel_rfl) ?_
 refine step_call 3 _ _ (some 6) 22 #[.agg (pc p).toArray] (by rfl) (by kernel_rfl) (by first | kernel_rfl | go_simp) ?_
 refine (HP0.out Y1).mono ?_
 rintro e Y2 ⟨rfl, bp⟩
 have bx : Below Y1.heap.size Y1 Y2 := bp
 clear bp
 replace b_V := Below.chain b_V bx
 have b_Y1 := bx
 have m_Y2 : Y1.heap.size ≤ Y2.heap.size := bx.size
 clear bx
 refine ⟨_, rfl, (q0.go b_V), ?_⟩
 simp only [Act.put, arr9, hd9, tl9]
 refine held_one 5 (by kernel_rfl) ?_
 refine step_call 5 _ _ (some 8) 23 #[.agg (pc p).toArray] (by rfl) (by kernel_rfl) (by first | kernel_rfl | go_simp) ?_
 refine (HD0.out Y2).mono ?_
 rintro e Y3 ⟨rfl, bd⟩
 have bx : Below Y2.heap.size Y2 Y3 := bd
 clear bd
 replace b_V := Below.chain b_V bx
 replace b_Y1 := Below.chain b_Y1 bx
 have b_Y2 := bx
 have m_Y3 : Y2.heap.size ≤ Y3.heap.size := bx.size
 clear bx
 refine ⟨_, rfl, (q0.go b_V), ?_⟩
 simp only [Act.put, arr9, hd9, tl9]
 refine hdv 6 9 (.bool true) (by rfl) (fun w hS => run_eql_agg (by kernel_rfl) (HQ0.out w) (by kernel_rfl) (by kernel_rfl)) ((q0.go b_V)) ?_
 refine hdv0 7 10 (.bool true) (by rfl) ((q0.go b_V)) ?_
 refine hdv0 8 11 (.bool true) (by rfl) ((q0.go b_V)) ?_
 refine held_load 9 24 (.tmp 1) (some 12) (by kernel_rfl) (by rfl) (by kernel_rfl) N 0 (by kernel_rfl) (pc p) _ (fun w h => h.range) Try.underlying24 rfl (info_poly.trans (size_poly p)) (fun _ _ _ _ h => h) ((q0.go b_V)) ?_
 simp only [Act.put, arr9, hd9, tl9]
 refine held_load 11 24 (.tmp 1) (some 14) (by kernel_rfl) (by rfl) (by kernel_rfl) N 0 (by kernel_rfl) (pc p) _ (fun w h => h.range) Try.underlying24 rfl (info_poly.trans (size_poly p)) (fun _ _ _ _ h => h) ((q0.go b_V)) ?_
 simp only [Act.put, arr9, hd9, tl9]
 refine held_one 10 (by kernel_rfl) ?_
 refine step_call 10 _ _ (some 13) 24 #[.agg (pc p).toArray] (by rfl) (by kernel_rfl) (by first | kernel_rfl | go_simp) ?_
 refine (HP1.out Y3).mono ?_
 rintro e Y4 ⟨rfl, bp⟩
 have bx : Below Y3.heap.size Y3 Y4 := bp
 clear bp
 replace b_V := Below.chain b_V bx
 replace b_Y1 := Below.chain b_Y1 bx
 replace b_Y2 := Below.chain b_Y2 bx
 have b_Y3 := bx
 have m_Y4 : Y3.heap.size ≤ Y4.heap.size := bx.size
 clear bx
 refine ⟨_, rfl, (q0.go b_V), ?_⟩
 simp only [Act.put, arr9, hd9, tl9]
 refine held_one 12 (by kernel_rfl) ?_
 refine step_call 12 _ _ (some 15) 25 #[.agg (pc p).toArray] (by rfl) (by kernel_rfl) (by first | kernel_rfl | go_simp) ?_
 refine (HD1.out Y4).mono ?_
 rintro e Y5 ⟨rfl, bd⟩
 have bx : Below Y4.heap.size Y4 Y5 := bd
 clear bd
 replace b_V := Below.chain b_V bx
 replace b_Y1 := Below.chain b_Y1 bx
 replace b_Y2 := Below.chain b_Y2 bx
 replace b_Y3 := Below.chain b_Y3 bx
 have b_Y4 := bx
 have m_Y5 : Y4.heap.size ≤ Y5.heap.size := bx.size
 clear bx
 refine ⟨_, rfl, (q0.go b_V), ?_⟩
 simp only [Act.put, arr9, hd9, tl9]
 refine hdv 13 16 (.bool true) (by rfl) (fun w hS => run_eql_agg (by kernel_rfl) (HQ1.out w) (by kernel_rfl) (by kernel_rfl)) ((q0.go b_V)) ?_
 refine hdv0 14 17 (.bool true) (by rfl) ((q0.go b_V)) ?_
 refine hdv0 15 2 (.bool true) (by rfl) ((q0.go b_V)) ?_
 refine wpAnyH_done (by kernel_rfl) ?_ _
 have HR : Shh (Below N w Y5) := ⟨bN.trans (b_V.mono (by have := bN.size; omega))⟩
 clear m_Y5 b_Y4 m_Y4 b_Y3 m_Y3 b_Y2 m_Y2 b_Y1 m_Y1 b_V bN q0
 go_wp2
 go_ret
 exact ⟨rfl, HR.out⟩
end Go.Proofs.Ytfcgdjgfdbcddaa
