/-
 THE LAW DringSums.
-/
import Derived.Test.YtapjiknedghhfaaDq7
import Derived.Test.YtapjiknedghhfaaDq8
import Derived.Test.YtapjiknedghhfaaDl1
namespace Go.Proofs.Ytapjiknedghhfaa
open Go.RowKit
set_option maxRecDepth 100000
set_option maxHeartbeats 8000000 in
theorem dringSums_law (p p2 : Nat → Int) (hp : ∀ i, i < 256 → i32 (p i)) (hp2 : ∀ i, i < 256 → i32 (p2 i)) (w : World) : Calls Try.prog 3 #[polyD p, polyD p2] w (TrueIs w) := by
 unfold TrueIs polyD
 have HLV : Shh (∀ W, Calls Try.prog 11 #[] W (TrueIs W)) := ⟨fun W => live15 W⟩
 have C0 : Shh (∀ W, Calls Try.prog 12 #[.agg (dc p).toArray] W (DPolyIs W (redD p))) := ⟨fun W => Reduce_any p hp W⟩
 have C1 : Shh (∀ W, Calls Try.prog 13 #[.agg (dc p).toArray] W (DPolyIs W (redD p))) := ⟨fun W => refReduce_any p hp W⟩
 have C2 : Shh (∀ W, Calls Try.prog 14 #[.agg (dc p).toArray] W (DPolyIs W (centD p))) := ⟨fun W => Center_any p hp W⟩
 have C3 : Shh (∀ W, Calls Try.prog 15 #[.agg (dc p).toArray] W (DPolyIs W (centD p))) := ⟨fun W => refCenter_any p hp W⟩
 have C4 : Shh (∀ W, Calls Try.prog 16 #[.agg (dc p).toArray] W (I32Bl W (normD p))) := ⟨fun W => Norm_any p hp W⟩
 have C5 : Shh (∀ W, Calls Try.prog 17 #[.agg (dc p).toArray] W (I32Bl W (normD p))) := ⟨fun W => refNorm_any p hp W⟩
 have C6 : Shh (∀ W, Calls Try.prog 18 #[.agg (dc p).toArray, .agg (dc p2).toArray] W (DPolyIs W (addD p p2))) := ⟨fun W => Add_any p p2 hp hp2 W⟩
 have C7 : Shh (∀ W, Calls Try.prog 19 #[.agg (dc p).toArray, .agg (dc p2).toArray] W (DPolyIs W (addD p p2))) := ⟨fun W => refAdd_any p p2 hp hp2 W⟩
 have C8 : Shh (∀ W, Calls Try.prog 20 #[.agg (dc p).toArray, .agg (dc p2).toArray] W (DPolyIs W (subD p p2))) := ⟨fun W => Sub_any p p2 hp hp2 W⟩
 have C9 : Shh (∀ W, Calls Try.prog 21 #[.agg (dc p).toArray, .agg (dc p2).toArray] W (DPolyIs W (subD p p2))) := ⟨fun W => refSub_any p p2 hp hp2 W⟩
 have C10 : Shh (∀ W, Calls Try.prog 22 #[.agg (dc p).toArray, .agg (dc p2).toArray] W (DPolyIs W (mulD p p2))) := ⟨fun W => Mul_any p p2 hp hp2 W⟩
 have C11 : Shh (∀ W, Calls Try.prog 23 #[.agg (dc p).toArray, .agg (dc p2).toArray] W (DPolyIs W (mulD p p2))) := ⟨fun W => refMul_any p p2 hp hp2 W⟩
 have E1 := Shh.mk (eq_dpoly (redD p) fun i _ => redD_32 p i)
 have E2 := Shh.mk (eq_dpoly (centD p) fun i _ => by have := centD_32 p i; unfold i32; omega)
 have E3 := Shh.mk (eq_dpoly (addD p p2) fun i _ => qd_32 _)
 have E4 := Shh.mk (eq_dpoly (subD p p2) fun i _ => qd_32 _)
 have E5 := Shh.mk (eq_dpoly (mulD p p2) fun i _ => qd_32 _)
 clear hp hp2
 generalize normD p = nm at *
 generalize redD p = rd at *
 generalize centD p = ct at *
 generalize addD p p2 = sm at *
 generalize subD p p2 = df at *
 generalize mulD p p2 = ml at *
 generalize hN : w.heap.size = N at *
 have FA : Shh (Row ((w.alloc (.cells (dc p).toArray 23)).alloc (.cells (dc p2).toArray 23)) N 23 (dc p) ∧ Row ((w.alloc (.cells (dc p).toArray 23)).alloc (.cells (dc p2).toArray 23)) (N + 1) 23 (dc p2) ∧ Below N w ((w.alloc (.cells (dc p).toArray 23)).alloc (.cells (dc p2).toArray 23))) := by
  refine ⟨((Row.new_ hN.symm rfl).alloc _), (Row.new_ (by rw [asz, hN]) rfl), ?_⟩
  rw [← hN]
  exact Below.chain (belA _ _) (belA _ _)
 go_enter Try.func3, Try.ntmps3
 obtain ⟨W, hW⟩ : ∃ W, W = ((w.alloc (.cells (dc p).toArray 23)).alloc (.cells (dc p2).toArray 23)) := ⟨_, rfl⟩
 have FB : Shh (Row W N 23 (dc p) ∧ Row W (N + 1) 23 (dc p2) ∧ Below N w W) := by rw [hW]; exact FA
 clear FA
 go_wp2
 try simp only [asz, hN]
 rw [← hW]
 clear hW
 try simp only [Act.put, arr9, hd9, tl9]
 refine wp_region_held_drew (S := fun w' => Row w' N 23 (dc p) ∧ Row w' (N + 1) 23 (dc p2)) (by kernel_rfl) ⟨FB.out.1.drew, FB.out.2.1.drew⟩ (fun hS => ?_)
 clear hS
 obtain ⟨X1, hX1⟩ : ∃ V, V = World.drew W := ⟨_, rfl⟩
 rw [← hX1]
 have FC : Shh (Row X1 N 23 (dc p) ∧ Row X1 (N + 1) 23 (dc p2) ∧ Below N w X1) := by
  obtain ⟨h0, h1, h2⟩ := FB.out
  rw [hX1]
  exact ⟨h0.drew, h1.drew, h2.drew⟩
 clear hX1 FB
 refine held_one 0 (by kernel_rfl) ?_
 refine step_call 0 _ _ (some 5) 11 #[] (by rfl) (by kernel_rfl) (by first | kernel_rfl | go_simp) ?_
 refine (HLV.out X1).mono ?_
 rintro e w3 ⟨rfl, b2⟩
 have FD : Shh (Row w3 N 23 (dc p) ∧ Row w3 (N + 1) 23 (dc p2) ∧ Below N w w3) := by
  obtain ⟨h0, h1, h2⟩ := FC.out
  have := h0.lt
  have := h1.lt
  have := b2.size
  exact ⟨h0.go b2, h1.go b2, h2.trans (b2.mono (by omega))⟩
 clear b2 FC
 refine ⟨_, rfl, ⟨FD.out.1, FD.out.2.1⟩, ?_⟩
 simp only [Act.put, arr9, hd9, tl9]
 refine hdv0 1 6 (.bool true) (by rfl) ⟨FD.out.1, FD.out.2.1⟩ ?_
 refine held_load 2 23 (.tmp 2) (some 7) (by kernel_rfl) (by rfl) (by kernel_rfl) (N) 0 (by kernel_rfl) (dc p) _ (fun w h => h.1.range) Try.underlying23 rfl (info_dD.trans (size_dc _)) (fun _ _ _ _ h => h) ⟨FD.out.1, FD.out.2.1⟩ ?_
 simp only [Act.put, arr9, hd9, tl9]
 refine held_load 4 23 (.tmp 2) (some 9) (by kernel_rfl) (by rfl) (by kernel_rfl) (N) 0 (by kernel_rfl) (dc p) _ (fun w h => h.1.range) Try.underlying23 rfl (info_dD.trans (size_dc _)) (fun _ _ _ _ h => h) ⟨FD.out.1, FD.out.2.1⟩ ?_
 simp only [Act.put, arr9, hd9, tl9]
 refine held_one 3 (by kernel_rfl) ?_
 refine step_call 3 _ _ (some 8) 12 #[.agg (dc p).toArray] (by rfl) (by kernel_rfl) (by first | kernel_rfl | go_simp) ?_
 refine (C0.out w3).mono ?_
 rintro e w5 ⟨rfl, b4⟩
 have FE : Shh (Row w5 N 23 (dc p) ∧ Row w5 (N + 1) 23 (dc p2) ∧ Below N w w5) := by
  obtain ⟨h0, h1, h2⟩ := FD.out
  have := h0.lt
  have := h1.lt
  have := b4.size
  exact ⟨h0.go b4, h1.go b4, h2.trans (b4.mono (by omega))⟩
 clear b4 FD
 refine ⟨_, rfl, ⟨FE.out.1, FE.out.2.1⟩, ?_⟩
 simp only [Act.put, arr9, hd9, tl9]
 refine held_one 5 (by kernel_rfl) ?_
 refine step_call 5 _ _ (some 10) 13 #[.agg (dc p).toArray] (by rfl) (by kernel_rfl) (by first | kernel_rfl | go_simp) ?_
 refine (C1.out w5).mono ?_
 rintro e w7 ⟨rfl, b6⟩
 have FF : Shh (Row w7 N 23 (dc p) ∧ Row w7 (N + 1) 23 (dc p2) ∧ Below N w w7) := by
  obtain ⟨h0, h1, h2⟩ := FE.out
  have := h0.lt
  have := h1.lt
  have := b6.size
  exact ⟨h0.go b6, h1.go b6, h2.trans (b6.mono (by omega))⟩
 clear b6 FE
 refine ⟨_, rfl, ⟨FF.out.1, FF.out.2.1⟩, ?_⟩
 simp only [Act.put, arr9, hd9, tl9]
 refine hdv 6 11 (.bool true) (by rfl) (fun w hS => run_eql_agg (by kernel_rfl) (E1.out w) (by kernel_rfl) (by kernel_rfl)) ⟨FF.out.1, FF.out.2.1⟩ ?_
 refine hdv0 7 12 (.bool true) (by rfl) ⟨FF.out.1, FF.out.2.1⟩ ?_
 refine hdv0 8 13 (.bool true) (by rfl) ⟨FF.out.1, FF.out.2.1⟩ ?_
 refine held_load 9 23 (.tmp 2) (some 14) (by kernel_rfl) (by rfl) (by kernel_rfl) (N) 0 (by kernel_rfl) (dc p) _ (fun w h => h.1.range) Try.underlying23 rfl (info_dD.trans (size_dc _)) (fun _ _ _ _ h => h) ⟨FF.out.1, FF.out.2.1⟩ ?_
 simp only [Act.put, arr9, hd9, tl9]
 refine held_load 11 23 (.tmp 2) (some 16) (by kernel_rfl) (by rfl) (by kernel_rfl) (N) 0 (by kernel_rfl) (dc p) _ (fun w h => h.1.range) Try.underlying23 rfl (info_dD.trans (size_dc _)) (fun _ _ _ _ h => h) ⟨FF.out.1, FF.out.2.1⟩ ?_
 simp only [Act.put, arr9, hd9, tl9]
 refine held_one 10 (by kernel_rfl) ?_
 refine step_call 10 _ _ (some 15) 14 #[.agg (dc p).toArray] (by rfl) (by kernel_rfl) (by first | kernel_rfl | go_simp) ?_
 refine (C2.out w7).mono ?_
 rintro e w9 ⟨rfl, b8⟩
 have FG : Shh (Row w9 N 23 (dc p) ∧ Row w9 (N + 1) 23 (dc p2) ∧ Below N w w9) := by
  obtain ⟨h0, h1, h2⟩ := FF.out
  have := h0.lt
  have := h1.lt
  have := b8.size
  exact ⟨h0.go b8, h1.go b8, h2.trans (b8.mono (by omega))⟩
 clear b8 FF
 refine ⟨_, rfl, ⟨FG.out.1, FG.out.2.1⟩, ?_⟩
 simp only [Act.put, arr9, hd9, tl9]
 refine held_one 12 (by kernel_rfl) ?_
 refine step_call 12 _ _ (some 17) 15 #[.agg (dc p).toArray] (by rfl) (by kernel_rfl) (by first | kernel_rfl | go_simp) ?_
 refine (C3.out w9).mono ?_
 rintro e w11 ⟨rfl, b10⟩
 have FH : Shh (Row w11 N 23 (dc p) ∧ Row w11 (N + 1) 23 (dc p2) ∧ Below N w w11) := by
  obtain ⟨h0, h1, h2⟩ := FG.out
  have := h0.lt
  have := h1.lt
  have := b10.size
  exact ⟨h0.go b10, h1.go b10, h2.trans (b10.mono (by omega))⟩
 clear b10 FG
 refine ⟨_, rfl, ⟨FH.out.1, FH.out.2.1⟩, ?_⟩
 simp only [Act.put, arr9, hd9, tl9]
 refine hdv 13 18 (.bool true) (by rfl) (fun w hS => run_eql_agg (by kernel_rfl) (E2.out w) (by kernel_rfl) (by kernel_rfl)) ⟨FH.out.1, FH.out.2.1⟩ ?_
 refine hdv0 14 19 (.bool true) (by rfl) ⟨FH.out.1, FH.out.2.1⟩ ?_
 refine hdv0 15 20 (.bool true) (by rfl) ⟨FH.out.1, FH.out.2.1⟩ ?_
 refine held_load 16 23 (.tmp 2) (some 21) (by kernel_rfl) (by rfl) (by kernel_rfl) (N) 0 (by kernel_rfl) (dc p) _ (fun w h => h.1.range) Try.underlying23 rfl (info_dD.trans (size_dc _)) (fun _ _ _ _ h => h) ⟨FH.out.1, FH.out.2.1⟩ ?_
 simp only [Act.put, arr9, hd9, tl9]
 refine held_load 18 23 (.tmp 2) (some 23) (by kernel_rfl) (by rfl) (by kernel_rfl) (N) 0 (by kernel_rfl) (dc p) _ (fun w h => h.1.range) Try.underlying23 rfl (info_dD.trans (size_dc _)) (fun _ _ _ _ h => h) ⟨FH.out.1, FH.out.2.1⟩ ?_
 simp only [Act.put, arr9, hd9, tl9]
 refine held_one 17 (by kernel_rfl) ?_
 refine step_call 17 _ _ (some 22) 16 #[.agg (dc p).toArray] (by rfl) (by kernel_rfl) (by first | kernel_rfl | go_simp) ?_
 refine (C4.out w11).mono ?_
 rintro e w13 ⟨rfl, b12⟩
 have FI : Shh (Row w13 N 23 (dc p) ∧ Row w13 (N + 1) 23 (dc p2) ∧ Below N w w13) := by
  obtain ⟨h0, h1, h2⟩ := FH.out
  have := h0.lt
  have := h1.lt
  have := b12.size
  exact ⟨h0.go b12, h1.go b12, h2.trans (b12.mono (by omega))⟩
 clear b12 FH
 refine ⟨_, rfl, ⟨FI.out.1, FI.out.2.1⟩, ?_⟩
 simp only [Act.put, arr9, hd9, tl9]
 refine held_one 19 (by kernel_rfl) ?_
 refine step_call 19 _ _ (some 24) 17 #[.agg (dc p).toArray] (by rfl) (by kernel_rfl) (by first | kernel_rfl | go_simp) ?_
 refine (C5.out w13).mono ?_
 rintro e w15 ⟨rfl, b14⟩
 have FJ : Shh (Row w15 N 23 (dc p) ∧ Row w15 (N + 1) 23 (dc p2) ∧ Below N w w15) := by
  obtain ⟨h0, h1, h2⟩ := FI.out
  have := h0.lt
  have := h1.lt
  have := b14.size
  exact ⟨h0.go b14, h1.go b14, h2.trans (b14.mono (by omega))⟩
 clear b14 FI
 refine ⟨_, rfl, ⟨FJ.out.1, FJ.out.2.1⟩, ?_⟩
 simp only [Act.put, arr9, hd9, tl9]
 refine hdv 20 25 (.bool true) (by rfl) (fun w hS => eql_d (i := nm) (j := nm) true (by simp) rfl (by kernel_rfl) (by kernel_rfl)) ⟨FJ.out.1, FJ.out.2.1⟩ ?_
 refine hdv0 21 26 (.bool true) (by rfl) ⟨FJ.out.1, FJ.out.2.1⟩ ?_
 refine hdv0 22 27 (.bool true) (by rfl) ⟨FJ.out.1, FJ.out.2.1⟩ ?_
 refine held_load 23 23 (.tmp 2) (some 28) (by kernel_rfl) (by rfl) (by kernel_rfl) (N) 0 (by kernel_rfl) (dc p) _ (fun w h => h.1.range) Try.underlying23 rfl (info_dD.trans (size_dc _)) (fun _ _ _ _ h => h) ⟨FJ.out.1, FJ.out.2.1⟩ ?_
 simp only [Act.put, arr9, hd9, tl9]
 refine held_load 24 23 (.tmp 3) (some 29) (by kernel_rfl) (by rfl) (by kernel_rfl) ((N + 1)) 0 (by kernel_rfl) (dc p2) _ (fun w h => h.2.range) Try.underlying23 rfl (info_dD.trans (size_dc _)) (fun _ _ _ _ h => h) ⟨FJ.out.1, FJ.out.2.1⟩ ?_
 simp only [Act.put, arr9, hd9, tl9]
 refine held_load 26 23 (.tmp 2) (some 31) (by kernel_rfl) (by rfl) (by kernel_rfl) (N) 0 (by kernel_rfl) (dc p) _ (fun w h => h.1.range) Try.underlying23 rfl (info_dD.trans (size_dc _)) (fun _ _ _ _ h => h) ⟨FJ.out.1, FJ.out.2.1⟩ ?_
 simp only [Act.put, arr9, hd9, tl9]
 refine held_load 27 23 (.tmp 3) (some 32) (by kernel_rfl) (by rfl) (by kernel_rfl) ((N + 1)) 0 (by kernel_rfl) (dc p2) _ (fun w h => h.2.range) Try.underlying23 rfl (info_dD.trans (size_dc _)) (fun _ _ _ _ h => h) ⟨FJ.out.1, FJ.out.2.1⟩ ?_
 simp only [Act.put, arr9, hd9, tl9]
 refine held_one 25 (by kernel_rfl) ?_
 refine step_call 25 _ _ (some 30) 18 #[.agg (dc p).toArray, .agg (dc p2).toArray] (by rfl) (by kernel_rfl) (by first | kernel_rfl | go_simp) ?_
 refine (C6.out w15).mono ?_
 rintro e w17 ⟨rfl, b16⟩
 have FK : Shh (Row w17 N 23 (dc p) ∧ Row w17 (N + 1) 23 (dc p2) ∧ Below N w w17) := by
  obtain ⟨h0, h1, h2⟩ := FJ.out
  have := h0.lt
  have := h1.lt
  have := b16.size
  exact ⟨h0.go b16, h1.go b16, h2.trans (b16.mono (by omega))⟩
 clear b16 FJ
 refine ⟨_, rfl, ⟨FK.out.1, FK.out.2.1⟩, ?_⟩
 simp only [Act.put, arr9, hd9, tl9]
 refine held_one 28 (by kernel_rfl) ?_
 refine step_call 28 _ _ (some 33) 19 #[.agg (dc p).toArray, .agg (dc p2).toArray] (by rfl) (by kernel_rfl) (by first | kernel_rfl | go_simp) ?_
 refine (C7.out w17).mono ?_
 rintro e w19 ⟨rfl, b18⟩
 have FL : Shh (Row w19 N 23 (dc p) ∧ Row w19 (N + 1) 23 (dc p2) ∧ Below N w w19) := by
  obtain ⟨h0, h1, h2⟩ := FK.out
  have := h0.lt
  have := h1.lt
  have := b18.size
  exact ⟨h0.go b18, h1.go b18, h2.trans (b18.mono (by omega))⟩
 clear b18 FK
 refine ⟨_, rfl, ⟨FL.out.1, FL.out.2.1⟩, ?_⟩
 simp only [Act.put, arr9, hd9, tl9]
 refine hdv 29 34 (.bool true) (by rfl) (fun w hS => run_eql_agg (by kernel_rfl) (E3.out w) (by kernel_rfl) (by kernel_rfl)) ⟨FL.out.1, FL.out.2.1⟩ ?_
 refine hdv0 30 35 (.bool true) (by rfl) ⟨FL.out.1, FL.out.2.1⟩ ?_
 refine hdv0 31 36 (.bool true) (by rfl) ⟨FL.out.1, FL.out.2.1⟩ ?_
 refine held_load 32 23 (.tmp 2) (some 37) (by kernel_rfl) (by rfl) (by kernel_rfl) (N) 0 (by kernel_rfl) (dc p) _ (fun w h => h.1.range) Try.underlying23 rfl (info_dD.trans (size_dc _)) (fun _ _ _ _ h => h) ⟨FL.out.1, FL.out.2.1⟩ ?_
 simp only [Act.put, arr9, hd9, tl9]
 refine held_load 33 23 (.tmp 3) (some 38) (by kernel_rfl) (by rfl) (by kernel_rfl) ((N + 1)) 0 (by kernel_rfl) (dc p2) _ (fun w h => h.2.range) Try.underlying23 rfl (info_dD.trans (size_dc _)) (fun _ _ _ _ h => h) ⟨FL.out.1, FL.out.2.1⟩ ?_
 simp only [Act.put, arr9, hd9, tl9]
 refine held_load 35 23 (.tmp 2) (some 40) (by kernel_rfl) (by rfl) (by kernel_rfl) (N) 0 (by kernel_rfl) (dc p) _ (fun w h => h.1.range) Try.underlying23 rfl (info_dD.trans (size_dc _)) (fun _ _ _ _ h => h) ⟨FL.out.1, FL.out.2.1⟩ ?_
 simp only [Act.put, arr9, hd9, tl9]
 refine held_load 36 23 (.tmp 3) (some 41) (by kernel_rfl) (by rfl) (by kernel_rfl) ((N + 1)) 0 (by kernel_rfl) (dc p2) _ (fun w h => h.2.range) Try.underlying23 rfl (info_dD.trans (size_dc _)) (fun _ _ _ _ h => h) ⟨FL.out.1, FL.out.2.1⟩ ?_
 simp only [Act.put, arr9, hd9, tl9]
 refine held_one 34 (by kernel_rfl) ?_
 refine step_call 34 _ _ (some 39) 20 #[.agg (dc p).toArray, .agg (dc p2).toArray] (by rfl) (by kernel_rfl) (by first | kernel_rfl | go_simp) ?_
 refine (C8.out w19).mono ?_
 rintro e w21 ⟨rfl, b20⟩
 have FM : Shh (Row w21 N 23 (dc p) ∧ Row w21 (N + 1) 23 (dc p2) ∧ Below N w w21) := by
  obtain ⟨h0, h1, h2⟩ := FL.out
  have := h0.lt
  have := h1.lt
  have := b20.size
  exact ⟨h0.go b20, h1.go b20, h2.trans (b20.mono (by omega))⟩
 clear b20 FL
 refine ⟨_, rfl, ⟨FM.out.1, FM.out.2.1⟩, ?_⟩
 simp only [Act.put, arr9, hd9, tl9]
 refine held_one 37 (by kernel_rfl) ?_
 refine step_call 37 _ _ (some 42) 21 #[.agg (dc p).toArray, .agg (dc p2).toArray] (by rfl) (by kernel_rfl) (by first | kernel_rfl | go_simp) ?_
 refine (C9.out w21).mono ?_
 rintro e w23 ⟨rfl, b22⟩
 have FN : Shh (Row w23 N 23 (dc p) ∧ Row w23 (N + 1) 23 (dc p2) ∧ Below N w w23) := by
  obtain ⟨h0, h1, h2⟩ := FM.out
  have := h0.lt
  have := h1.lt
  have := b22.size
  exact ⟨h0.go b22, h1.go b22, h2.trans (b22.mono (by omega))⟩
 clear b22 FM
 refine ⟨_, rfl, ⟨FN.out.1, FN.out.2.1⟩, ?_⟩
 simp only [Act.put, arr9, hd9, tl9]
 refine hdv 38 43 (.bool true) (by rfl) (fun w hS => run_eql_agg (by kernel_rfl) (E4.out w) (by kernel_rfl) (by kernel_rfl)) ⟨FN.out.1, FN.out.2.1⟩ ?_
 refine hdv0 39 44 (.bool true) (by rfl) ⟨FN.out.1, FN.out.2.1⟩ ?_
 refine hdv0 40 45 (.bool true) (by rfl) ⟨FN.out.1, FN.out.2.1⟩ ?_
 refine held_load 41 23 (.tmp 2) (some 46) (by kernel_rfl) (by rfl) (by kernel_rfl) (N) 0 (by kernel_rfl) (dc p) _ (fun w h => h.1.range) Try.underlying23 rfl (info_dD.trans (size_dc _)) (fun _ _ _ _ h => h) ⟨FN.out.1, FN.out.2.1⟩ ?_
 simp only [Act.put, arr9, hd9, tl9]
 refine held_load 42 23 (.tmp 3) (some 47) (by kernel_rfl) (by rfl) (by kernel_rfl) ((N + 1)) 0 (by kernel_rfl) (dc p2) _ (fun w h => h.2.range) Try.underlying23 rfl (info_dD.trans (size_dc _)) (fun _ _ _ _ h => h) ⟨FN.out.1, FN.out.2.1⟩ ?_
 simp only [Act.put, arr9, hd9, tl9]
 refine held_load 44 23 (.tmp 2) (some 49) (by kernel_rfl) (by rfl) (by kernel_rfl) (N) 0 (by kernel_rfl) (dc p) _ (fun w h => h.1.range) Try.underlying23 rfl (info_dD.trans (size_dc _)) (fun _ _ _ _ h => h) ⟨FN.out.1, FN.out.2.1⟩ ?_
 simp only [Act.put, arr9, hd9, tl9]
 refine held_load 45 23 (.tmp 3) (some 50) (by kernel_rfl) (by rfl) (by kernel_rfl) ((N + 1)) 0 (by kernel_rfl) (dc p2) _ (fun w h => h.2.range) Try.underlying23 rfl (info_dD.trans (size_dc _)) (fun _ _ _ _ h => h) ⟨FN.out.1, FN.out.2.1⟩ ?_
 simp only [Act.put, arr9, hd9, tl9]
 refine held_one 43 (by kernel_rfl) ?_
 refine step_call 43 _ _ (some 48) 22 #[.agg (dc p).toArray, .agg (dc p2).toArray] (by rfl) (by kernel_rfl) (by first | kernel_rfl | go_simp) ?_
 refine (C10.out w23).mono ?_
 rintro e w25 ⟨rfl, b24⟩
 have FO : Shh (Row w25 N 23 (dc p) ∧ Row w25 (N + 1) 23 (dc p2) ∧ Below N w w25) := by
  obtain ⟨h0, h1, h2⟩ := FN.out
  have := h0.lt
  have := h1.lt
  have := b24.size
  exact ⟨h0.go b24, h1.go b24, h2.trans (b24.mono (by omega))⟩
 clear b24 FN
 refine ⟨_, rfl, ⟨FO.out.1, FO.out.2.1⟩, ?_⟩
 simp only [Act.put, arr9, hd9, tl9]
 refine held_one 46 (by kernel_rfl) ?_
 refine step_call 46 _ _ (some 51) 23 #[.agg (dc p).toArray, .agg (dc p2).toArray] (by rfl) (by kernel_rfl) (by first | kernel_rfl | go_simp) ?_
 refine (C11.out w25).mono ?_
 rintro e w27 ⟨rfl, b26⟩
 have FP : Shh (Row w27 N 23 (dc p) ∧ Row w27 (N + 1) 23 (dc p2) ∧ Below N w w27) := by
  obtain ⟨h0, h1, h2⟩ := FO.out
  have := h0.lt
  have := h1.lt
  have := b26.size
  exact ⟨h0.go b26, h1.go b26, h2.trans (b26.mono (by omega))⟩
 clear b26 FO
 refine ⟨_, rfl, ⟨FP.out.1, FP.out.2.1⟩, ?_⟩
 simp only [Act.put, arr9, hd9, tl9]
 refine hdv 47 52 (.bool true) (by rfl) (fun w hS => run_eql_agg (by kernel_rfl) (E5.out w) (by kernel_rfl) (by kernel_rfl)) ⟨FP.out.1, FP.out.2.1⟩ ?_
 refine hdv0 48 53 (.bool true) (by rfl) ⟨FP.out.1, FP.out.2.1⟩ ?_
 refine hdv0 49 4 (.bool true) (by rfl) ⟨FP.out.1, FP.out.2.1⟩ ?_
 refine wpAnyH_done (by kernel_rfl) ?_ _
 go_wp2
 go_ret
 exact ⟨rfl, FP.out.2.2⟩
end Go.Proofs.Ytapjiknedghhfaa
